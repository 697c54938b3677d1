import Derived.Test.YtnfiapjdkjbdhaaGreatQ3
import Derived.WalkMore
import Derived.Laws.EntriesVeiled
import Derived.Lib.TrimU
import Derived.Lib.SliceRun
import Derived.Lib.OthersKept
import Derived.Deep.LoopGhost
namespace Go.Proofs.YtnfiapjdkjbdhaaGreat
open Go.RowKit
set_option linter.unusedVariables false
set_option linter.unusedSimpArgs false
set_option maxRecDepth 10000
theorem scope_in {n : Nat} {P : Program} {c : Code} {Q : Exit → Act → World → Prop} {a : Act} {w : World} (h : c.wpIn Fence.wide n P (Exit.noGoto Q) a w) : (Code.scope c).wpIn Fence.wide n P Q a w :=
  wpIn_wide.2 (wp_scope_straight ((wpIn_wide (n := n)).1 h))
end Go.Proofs.YtnfiapjdkjbdhaaGreat
/- Layer 6 (bits): how many are on. -/
namespace Go.Proofs.YtnfiapjdkjbdhaaGreat.Bits
open Go.RowKit Go.Shelf
set_option linter.unusedVariables false
set_option linter.unusedSimpArgs false
set_option maxRecDepth 10000
attribute [local go_sem] Oper.semAt_some
def onOf (l : List UInt8) (xs : List (BitIx l)) : Nat := (xs.map fun x => if bitL l x.val then 1 else 0).sum
theorem onOf_snoc (l : List UInt8) (xs : List (BitIx l)) (x : BitIx l) : onOf l (xs ++ [x]) = onOf l xs + if bitL l x.val then 1 else 0 := by
  unfold onOf
  rw [List.map_append, List.sum_append]; simp
theorem onOf_row (l : List UInt8) (k : Nat) (xs : List (BitIx l)) (h : BitRow l 0 k xs) : onOf l xs = countL l k := by
  induction k generalizing xs with
  | zero =>
    have := h.length
    have : xs = [] := List.length_eq_zero_iff.1 this
    subst this; rfl
  | succ k ih =>
    have hl := h.length
    obtain ⟨ys, x, rfl⟩ : ∃ ys x, xs = ys ++ [x] := by
      rcases List.eq_nil_or_concat xs with e | ⟨ys, x, e⟩
      · subst e; simp at hl
      · exact ⟨ys, x, by simpa using e⟩
    obtain ⟨j, hj, hr, hx⟩ := h.unsnoc
    obtain rfl : k = j := by omega
    rw [onOf_snoc, ih _ hr, countL, hx, Nat.zero_add]
theorem onOf_le (l : List UInt8) (xs : List (BitIx l)) : onOf l xs ≤ xs.length := by
  unfold onOf
  induction xs with
  | nil => simp
  | cons x xs ih => rw [List.map_cons, List.sum_cons, List.length_cons]; split <;> omega
theorem BitRow.mem {l : List UInt8} {a k : Nat} {xs : List (BitIx l)} (h : BitRow l a k xs) (x : BitIx l) (h1 : a ≤ x.val) (h2 : x.val < a + k) : x ∈ xs := by
  have hm : x.val ∈ xs.map Fin.val := by rw [h, List.mem_range'_1]; exact ⟨h1, h2⟩
  obtain ⟨y, hy, e⟩ := List.mem_map.1 hm
  rwa [← Fin.ext e]
theorem cell_alloc_l {W : World} {a : Addr} {v : Value} (o : Obj) (h : W.cell? a = some v) : (W.alloc o).cell? a = some v := cell_kept h (World.grownBy_alloc W o none) (fun r e => by cases e)
theorem frozen_alloc_l {W : World} {a : Addr} {v : Value} (o : Obj) (h : W.cell? a = some v) (hf : W.frozen? a = false) : (W.alloc o).frozen? a = false := (frozen_kept h (World.grownBy_alloc W o none) (fun r e => by cases e)).trans hf
theorem boxes4 (w : World) (a b c d : Value) (s t u v : TypeId) :
    ((((w.alloc (.cells #[a] s)).alloc (.cells #[b] t)).alloc (.cells #[c] u)).alloc (.cells #[d] v)).cell? ⟨w.heap.size, 0, none⟩ = some a ∧
    ((((w.alloc (.cells #[a] s)).alloc (.cells #[b] t)).alloc (.cells #[c] u)).alloc (.cells #[d] v)).cell? ⟨w.heap.size + 1, 0, none⟩ = some b ∧
    ((((w.alloc (.cells #[a] s)).alloc (.cells #[b] t)).alloc (.cells #[c] u)).alloc (.cells #[d] v)).cell? ⟨w.heap.size + 1 + 1, 0, none⟩ = some c ∧
    ((((w.alloc (.cells #[a] s)).alloc (.cells #[b] t)).alloc (.cells #[c] u)).alloc (.cells #[d] v)).cell? ⟨w.heap.size + 1 + 1 + 1, 0, none⟩ = some d ∧
    ((((w.alloc (.cells #[a] s)).alloc (.cells #[b] t)).alloc (.cells #[c] u)).alloc (.cells #[d] v)).frozen? ⟨w.heap.size + 1, 0, none⟩ = false := by
  have h1 := cell_new_l w a s
  have h2 := cell_new_l (w.alloc (.cells #[a] s)) b t
  have f2 := frozen_new_l (w.alloc (.cells #[a] s)) b t
  have h3 := cell_new_l ((w.alloc (.cells #[a] s)).alloc (.cells #[b] t)) c u
  have h4 := cell_new_l (((w.alloc (.cells #[a] s)).alloc (.cells #[b] t)).alloc (.cells #[c] u)) d v
  simp only [World.size_alloc] at h2 h3 h4 f2
  exact ⟨cell_alloc_l _ (cell_alloc_l _ (cell_alloc_l _ h1)), cell_alloc_l _ (cell_alloc_l _ h2), cell_alloc_l _ h3, h4, frozen_alloc_l _ (cell_alloc_l _ h2) (frozen_alloc_l _ h2 f2)⟩
set_option maxRecDepth 100000 in
set_option maxHeartbeats 2000000 in
theorem count_any (l : List UInt8) (n : Int) (w : World) (hl : l.length ≤ 1048576) :
    Calls Tryz.prog 131 #[str l, .int .i64 n] w fun e w' => e = .returned (.int .i64 (countL l (min n.toNat (8 * l.length)) : Nat)) ∧ Below w.heap.size w w' := by
  refine (callsIn_wide (n := 3)).1 ?_
  refine callsIn_of_wp_marks Tryz.func131 rfl trivial ?_ rfl
  simp only [Tryz.ntmps131, List.size_toArray, List.length_cons, List.length_nil, Nat.reduceAdd, Nat.reduceSub, Array.replicate_succ, Array.replicate_zero, List.push_toArray, List.append_toArray, List.nil_append, List.cons_append]
  gi_wp2_with fail
  refine scope_in ?_
  gi_wp2_with fail
  refine wpIn_label ?_
  gi_wp2_with fail
  refine ⟨trivial, (callsIn_wide.2 (bitsFrom_any l 0 _)).mono ?_⟩
  rintro e w2 ⟨rfl, rfl⟩
  gi_wp2_with fail
  obtain ⟨W0, hW0⟩ : ∃ W0, ((((w.alloc (.cells #[Value.int .i64 n] 3)).alloc (.cells #[Value.int .i64 0] 3)).alloc (.cells #[str l] 9)).alloc (.cells #[Value.int .i64 0] 3)) = W0 := ⟨_, rfl⟩
  have hsz0 : W0.heap.size = w.heap.size + 1 + 1 + 1 + 1 := by rw [← hW0]; simp
  have hB0 : Below w.heap.size w W0 := by
    rw [← hW0]
    exact ((((Below.refl _ _).alloc (Nat.le_refl _) _).alloc (by simp) _).alloc (by simp; omega) _).alloc (by simp; omega) _
  obtain ⟨hcn, hcc, hcs, hca, hcf⟩ := boxes4 w (Value.int .i64 n) (Value.int .i64 0) (str l) (Value.int .i64 0) 3 3 9 3
  rw [hW0] at hcn hcc hcs hca hcf
  rw [hW0]
  clear hW0
  have Hsz0 := Lib.hid hsz0
  refine wpIn_rangeFunc_ownF rfl (by decide) (gf := 219) (lb := #[.pointer (some ⟨w.heap.size + 1 + 1 + 1, 0, none⟩), .pointer (some ⟨w.heap.size + 1 + 1, 0, none⟩)]) rfl trivial (enters_of Tryz.func219 (by kernel_rfl) rfl)
    (encs := fun (x : BitIx l) => #[.int .i64 (x.val : Int), .bool (bitL l x.val)]) (S := fun ys => BitRow l 0 (8 * l.length - 0) ys) (Sp := fun pre => ∃ k, 0 + k ≤ 8 * l.length ∧ BitRow l 0 k pre) (N := 8 * l.length) (w0 := W0) (Kp := KeepC (w.heap.size + 1 + 1))
    (fun y J Jx W hW hJ hJx hY h0 => bits_in l hl 0 (Nat.zero_le _) y (w.heap.size + 1 + 1 + 1) (w.heap.size + 1 + 1) J Jx hY W ((hW.cell (p := ⟨w.heap.size + 1 + 1 + 1, 0, none⟩) (by rw [Hsz0.out]; simp)).trans hca) ((hW.cell (p := ⟨w.heap.size + 1 + 1, 0, none⟩) (by rw [Hsz0.out]; simp)).trans hcs) h0)
    (fun h k => h.trans k) (fun W q o o' _ hq ho _ => KeepC.putObj o' hq ho) (Below.refl _ _) (fun _ => rfl)
    (fun pre W => (W.cell? ⟨w.heap.size, 0, none⟩ = some (.int .i64 n) ∧ W.cell? ⟨w.heap.size + 1, 0, none⟩ = some (.int .i64 (onOf l pre : Nat)) ∧ W.frozen? ⟨w.heap.size + 1, 0, none⟩ = false ∧ ∀ x ∈ pre, (x.val : Int) < n) ∧ Below w.heap.size w W)
    (fun c pre W => (c = .exit 0 ∧ ∃ ys x, pre = ys ++ [x] ∧ n ≤ (x.val : Int) ∧ (∀ x ∈ ys, (x.val : Int) < n) ∧ W.cell? ⟨w.heap.size + 1, 0, none⟩ = some (.int .i64 (onOf l ys : Nat))) ∧ Below w.heap.size w W)
    (OwnFrom.and (Own.from (fun s A B row hs hg hr => ⟨cell_kept hs.1 hg hr, cell_kept hs.2.1 hg hr, (frozen_kept hs.2.1 hg hr).trans hs.2.2.1, hs.2.2.2⟩) _) (ownFrom_below (Nat.le_refl _) (by rw [Hsz0.out]; omega)))
    (fun c => OwnFrom.and (Own.from (fun s A B row hs hg hr => by obtain ⟨h1, ys, x, h2, h3, h4, h5⟩ := hs; exact ⟨h1, ys, x, h2, h3, h4, cell_kept h5 hg hr⟩) _) (ownFrom_below (Nat.le_refl _) (by rw [Hsz0.out]; omega)))
    ⟨⟨hcn, hcc, hcf, by simp⟩, hB0⟩
    (fun x => { tmps := #[str l, Value.int .i64 n, undef, .pointer (some ⟨w.heap.size, 0, none⟩), Value.int .i64 0, .pointer (some ⟨w.heap.size + 1, 0, none⟩), .int .i64 (x.val : Int), .bool (bitL l x.val), str l, .func (.func 219) #[] #[.pointer (some ⟨w.heap.size + 1 + 1 + 1, 0, none⟩), .pointer (some ⟨w.heap.size + 1 + 1, 0, none⟩)], .int .i64 (x.val : Int), .bool (bitL l x.val), undef, undef, undef, undef, undef, undef, undef, undef, undef], defers := [] }) ?assign ?body ?done ?stop
  case assign =>
    intro l x W K hK
    gi_wp2
    exact hK
  case body =>
    rintro y pre x W ⟨⟨hn, hc, hf, ht⟩, hB⟩ hlen
    have hle := onOf_le l pre
    have hsn := Lib.hid (onOf_snoc l pre x)
    have Ht := Lib.hid ht
    clear ht hcn hcc hcs hca hcf
    gi_wp2_with fail
    · rename_i h1
      exact ⟨KeepsOthers.refl _, ⟨rfl, pre, x, rfl, h1, Ht.out, hc⟩, hB⟩
    · rename_i h1 h2
      refine ⟨KeepsOthers.setCell _ _ _, KeepC.setCell _ _ _ (by simp), ⟨?_, ?_, ?_, ?_⟩, hB.setCell (p := ⟨w.heap.size + 1, 0, none⟩) (by simp) _⟩
      · rw [World.cell?_setCell_other _ _ _ _ (by simp)]; exact hn
      · rw [hsn.out, h2]
        exact World.cell?_setCell_same' _ _ _ (by rw [hc]; rfl)
      · rw [World.frozen?_setCell]; exact hf
      · intro z hz
        rcases List.mem_append.1 hz with h | h
        · exact Ht.out z h
        · rw [List.mem_singleton.1 h]; exact h1
    · rename_i h1 h2
      refine ⟨KeepsOthers.refl _, KeepC.refl _ _, ⟨hn, ?_, hf, ?_⟩, hB⟩
      · rw [hsn.out, h2]; exact hc
      · intro z hz
        rcases List.mem_append.1 hz with h | h
        · exact Ht.out z h
        · rw [List.mem_singleton.1 h]; exact h1
  case done =>
    rintro D ys W hD hS ⟨⟨hn, hc, hf, ht⟩, hB⟩ hK
    gi_wp2_with fail
    rw [Exit.noGoto_ret]
    refine ⟨by simp, .inl ⟨_, _, rfl, run_takeDeferred hK, ?_⟩⟩
    refine ⟨_, results_tmp rfl _ _ _, ?_, hB.trans (belowK_b (w := w) (Nat.le_refl _) W D _ _ (by rw [Hsz0.out] at hD; omega) hK rfl rfl)⟩
    have hmin : min n.toNat (8 * l.length) = 8 * l.length - 0 := by
      rcases Nat.eq_zero_or_pos (8 * l.length) with h0 | h0
      · omega
      · have := ht ⟨8 * l.length - 1, by omega⟩ (hS.mem _ (by simp) (by simp; omega))
        simp only at this
        omega
    rw [hmin, ← onOf_row l _ ys hS]; rfl
  case stop =>
    rintro D c pre W hD ⟨k, hk, hrow⟩ ⟨⟨rfl, ys, x, rfl, hx, hys, hc⟩, hB⟩ hK
    gi_wp2_with fail
    rw [Exit.noGoto_ret]
    refine ⟨by simp, .inl ⟨_, _, rfl, run_takeDeferred hK, ?_⟩⟩
    refine ⟨_, results_tmp rfl _ _ _, ?_, hB.trans (belowK_b (w := w) (Nat.le_refl _) W D _ _ (by rw [Hsz0.out] at hD; omega) hK rfl rfl)⟩
    obtain ⟨j, rfl, hr, hxj⟩ := hrow.unsnoc
    have hlx := x.isLt
    have hmin : min n.toNat (8 * l.length) = j := by
      rcases Nat.eq_zero_or_pos j with h0 | h0
      · omega
      · have := hys ⟨j - 1, by omega⟩ (hr.mem _ (by simp) (by simp; omega))
        simp only at this
        omega
    rw [hmin, ← onOf_row l _ ys hr]; rfl
end Go.Proofs.YtnfiapjdkjbdhaaGreat.Bits
/- Layer 6 (bits): the least one. -/
namespace Go.Proofs.YtnfiapjdkjbdhaaGreat.Bits
open Go.RowKit Go.Shelf
set_option linter.unusedVariables false
set_option linter.unusedSimpArgs false
set_option maxRecDepth 10000
attribute [local go_sem] Oper.semAt_some
theorem boxes6 (w : World) (a b c d e f : Value) (s t u v x y : TypeId) :
    let W := ((((((w.alloc (.cells #[a] s)).alloc (.cells #[b] t)).alloc (.cells #[c] u)).alloc (.cells #[d] v)).alloc (.cells #[e] x)).alloc (.cells #[f] y))
    W.cell? ⟨w.heap.size, 0, none⟩ = some a ∧ W.cell? ⟨w.heap.size + 1, 0, none⟩ = some b ∧ W.cell? ⟨w.heap.size + 1 + 1, 0, none⟩ = some c ∧ W.cell? ⟨w.heap.size + 1 + 1 + 1, 0, none⟩ = some d ∧
    W.cell? ⟨w.heap.size + 1 + 1 + 1 + 1, 0, none⟩ = some e ∧ W.cell? ⟨w.heap.size + 1 + 1 + 1 + 1 + 1, 0, none⟩ = some f ∧
    W.frozen? ⟨w.heap.size + 1 + 1, 0, none⟩ = false ∧ W.frozen? ⟨w.heap.size + 1 + 1 + 1, 0, none⟩ = false := by
  obtain ⟨h1, h2, h3, h4, _⟩ := boxes4 w a b c d s t u v
  intro W
  have f4 := frozen_new_l (((w.alloc (.cells #[a] s)).alloc (.cells #[b] t)).alloc (.cells #[c] u)) d v
  have h3' := cell_new_l ((w.alloc (.cells #[a] s)).alloc (.cells #[b] t)) c u
  have f3 := frozen_new_l ((w.alloc (.cells #[a] s)).alloc (.cells #[b] t)) c u
  have h5 := cell_new_l ((((w.alloc (.cells #[a] s)).alloc (.cells #[b] t)).alloc (.cells #[c] u)).alloc (.cells #[d] v)) e x
  have h6 := cell_new_l (((((w.alloc (.cells #[a] s)).alloc (.cells #[b] t)).alloc (.cells #[c] u)).alloc (.cells #[d] v)).alloc (.cells #[e] x)) f y
  simp only [World.size_alloc] at h5 h6 f4 f3 h3'
  exact ⟨cell_alloc_l _ (cell_alloc_l _ h1), cell_alloc_l _ (cell_alloc_l _ h2), cell_alloc_l _ (cell_alloc_l _ h3), cell_alloc_l _ (cell_alloc_l _ h4), cell_alloc_l _ h5, h6,
    frozen_alloc_l _ (cell_alloc_l _ h3) (frozen_alloc_l _ h3 (frozen_alloc_l _ h3' f3)), frozen_alloc_l _ (cell_alloc_l _ h4) (frozen_alloc_l _ h4 f4)⟩
def leastV : Option Nat → Value
  | some k => .tuple #[.int .i64 k, .bool true]
  | none => .tuple #[.int .i64 0, .bool false]
def NoneOf (l : List UInt8) (n : Int) (on : Bool) (xs : List (BitIx l)) : Prop := ∀ x ∈ xs, (x.val : Int) < n ∧ bitL l x.val = !on
theorem NoneOf.snoc {l : List UInt8} {n : Int} {on : Bool} {xs : List (BitIx l)} (h : NoneOf l n on xs) (x : BitIx l) (h1 : (x.val : Int) < n) (h2 : bitL l x.val = !on) : NoneOf l n on (xs ++ [x]) := by
  intro z hz
  rcases List.mem_append.1 hz with e | e
  · exact h z e
  · rw [List.mem_singleton.1 e]; exact ⟨h1, h2⟩
theorem stored {w W : World} {D : Nat} {u v : Value} (hB : Below w.heap.size w W) (hk : W.cell? ⟨w.heap.size + 1 + 1, 0, none⟩ = some u) (hb : W.cell? ⟨w.heap.size + 1 + 1 + 1, 0, none⟩ = some v) (hK : W.heap[D]? = some (.deferred (some []))) (x y : Value) :
    let W' := (W.setCell ⟨w.heap.size + 1 + 1, 0, none⟩ x).setCell ⟨w.heap.size + 1 + 1 + 1, 0, none⟩ y
    W'.heap[D]? = some (.deferred (some [])) ∧ Below w.heap.size w W' ∧ (W'.putObj D (.deferred none)).cell? ⟨w.heap.size + 1 + 1, 0, none⟩ = some x ∧ (W'.putObj D (.deferred none)).cell? ⟨w.heap.size + 1 + 1 + 1, 0, none⟩ = some y := by
  intro W'
  have hK' : W'.heap[D]? = some (.deferred (some [])) := ((KeepsOthers.setCell W ⟨w.heap.size + 1 + 1, 0, none⟩ x).trans (KeepsOthers.setCell _ ⟨w.heap.size + 1 + 1 + 1, 0, none⟩ y)).same D _ hK rfl
  have r1 : W'.cell? ⟨w.heap.size + 1 + 1, 0, none⟩ = some x := by
    rw [World.cell?_setCell_other _ _ _ _ (by simp)]
    exact World.cell?_setCell_same' _ _ _ (by rw [hk]; rfl)
  have r2 : W'.cell? ⟨w.heap.size + 1 + 1 + 1, 0, none⟩ = some y := World.cell?_setCell_same' _ _ _ (by rw [World.cell?_setCell_other _ _ _ _ (by simp), hb]; rfl)
  exact ⟨hK', (hB.setCell (p := ⟨w.heap.size + 1 + 1, 0, none⟩) (by simp; omega) _).setCell (p := ⟨w.heap.size + 1 + 1 + 1, 0, none⟩) (by simp; omega) _,
    cell_kept r1 (grownBy_putObj' _ D (.deferred none)) (fun r e => by cases e; exact ⟨_, hK', rfl⟩), cell_kept r2 (grownBy_putObj' _ D (.deferred none)) (fun r e => by cases e; exact ⟨_, hK', rfl⟩)⟩
set_option maxRecDepth 100000 in
set_option maxHeartbeats 2000000 in
theorem least_any (l : List UInt8) (n : Int) (on : Bool) (w : World) (hl : l.length ≤ 1048576) :
    Calls Tryz.prog 153 #[str l, .int .i64 n, .bool on] w fun e w' => e = .returned (leastV (leastL l on (min n.toNat (8 * l.length)))) ∧ Below w.heap.size w w' := by
  refine (callsIn_wide (n := 3)).1 ?_
  refine callsIn_of_wp_marks Tryz.func153 rfl trivial ?_ rfl
  simp only [Tryz.ntmps153, List.size_toArray, List.length_cons, List.length_nil, Nat.reduceAdd, Nat.reduceSub, Array.replicate_succ, Array.replicate_zero, List.push_toArray, List.append_toArray, List.nil_append, List.cons_append]
  gi_wp2_with fail
  refine scope_in ?_
  gi_wp2_with fail
  refine wpIn_label ?_
  gi_wp2_with fail
  refine ⟨trivial, (callsIn_wide.2 (bitsFrom_any l 0 _)).mono ?_⟩
  rintro e w2 ⟨rfl, rfl⟩
  gi_wp2_with fail
  obtain ⟨W0, hW0⟩ : ∃ W0, (((((((w.alloc (.cells #[Value.int .i64 n] 3)).alloc (.cells #[Value.bool on] 4)).alloc (.cells #[Value.int .i64 0] 3)).alloc (.cells #[Value.bool false] 4)).alloc (.cells #[str l] 9)).alloc (.cells #[Value.int .i64 0] 3))) = W0 := ⟨_, rfl⟩
  have hsz0 : W0.heap.size = w.heap.size + 1 + 1 + 1 + 1 + 1 + 1 := by rw [← hW0]; simp
  have hB0 : Below w.heap.size w W0 := by
    rw [← hW0]
    exact ((((((Below.refl _ _).alloc (Nat.le_refl _) _).alloc (by simp) _).alloc (by simp; omega) _).alloc (by simp; omega) _).alloc (by simp; omega) _).alloc (by simp; omega) _
  obtain ⟨hcn, hco, hck, hcb, hcs, hca, hfk, hfb⟩ := boxes6 w (Value.int .i64 n) (.bool on) (Value.int .i64 0) (.bool false) (str l) (Value.int .i64 0) 3 4 3 4 9 3
  rw [hW0] at hcn hco hck hcb hcs hca hfk hfb
  rw [hW0]
  clear hW0
  have Hsz0 := Lib.hid hsz0
  refine wpIn_rangeFunc_ownF rfl (by decide) (gf := 219) (lb := #[.pointer (some ⟨w.heap.size + 1 + 1 + 1 + 1 + 1, 0, none⟩), .pointer (some ⟨w.heap.size + 1 + 1 + 1 + 1, 0, none⟩)]) rfl trivial (enters_of Tryz.func219 (by kernel_rfl) rfl)
    (encs := fun (x : BitIx l) => #[.int .i64 (x.val : Int), .bool (bitL l x.val)]) (S := fun ys => BitRow l 0 (8 * l.length - 0) ys) (Sp := fun pre => ∃ k, 0 + k ≤ 8 * l.length ∧ BitRow l 0 k pre) (N := 8 * l.length) (w0 := W0) (Kp := KeepC (w.heap.size + 1 + 1 + 1 + 1))
    (fun y J Jx W hW hJ hJx hY h0 => bits_in l hl 0 (Nat.zero_le _) y (w.heap.size + 1 + 1 + 1 + 1 + 1) (w.heap.size + 1 + 1 + 1 + 1) J Jx hY W ((hW.cell (p := ⟨w.heap.size + 1 + 1 + 1 + 1 + 1, 0, none⟩) (by rw [Hsz0.out]; simp)).trans hca) ((hW.cell (p := ⟨w.heap.size + 1 + 1 + 1 + 1, 0, none⟩) (by rw [Hsz0.out]; simp)).trans hcs) h0)
    (fun h k => h.trans k) (fun W q o o' _ hq ho _ => KeepC.putObj o' hq ho) (Below.refl _ _) (fun _ => rfl)
    (fun pre W => ((W.cell? ⟨w.heap.size, 0, none⟩ = some (.int .i64 n) ∧ W.cell? ⟨w.heap.size + 1, 0, none⟩ = some (.bool on)) ∧ (W.cell? ⟨w.heap.size + 1 + 1, 0, none⟩ = some (.int .i64 0) ∧ W.cell? ⟨w.heap.size + 1 + 1 + 1, 0, none⟩ = some (.bool false)) ∧ (W.frozen? ⟨w.heap.size + 1 + 1, 0, none⟩ = false ∧ W.frozen? ⟨w.heap.size + 1 + 1 + 1, 0, none⟩ = false) ∧ NoneOf l n on pre) ∧ Below w.heap.size w W)
    (fun c pre W => (∃ ys x, pre = ys ++ [x] ∧ NoneOf l n on ys ∧
      ((c = .exit 0 ∧ n ≤ (x.val : Int) ∧ (W.cell? ⟨w.heap.size + 1 + 1, 0, none⟩ = some (.int .i64 0) ∧ W.cell? ⟨w.heap.size + 1 + 1 + 1, 0, none⟩ = some (.bool false)) ∧ (W.frozen? ⟨w.heap.size + 1 + 1, 0, none⟩ = false ∧ W.frozen? ⟨w.heap.size + 1 + 1 + 1, 0, none⟩ = false)) ∨
       (c = .ret ∧ (x.val : Int) < n ∧ bitL l x.val = on ∧ W.cell? ⟨w.heap.size + 1 + 1, 0, none⟩ = some (.int .i64 x.val) ∧ W.cell? ⟨w.heap.size + 1 + 1 + 1, 0, none⟩ = some (.bool true)))) ∧ Below w.heap.size w W)
    (OwnFrom.and (Own.from (fun s A B row hs hg hr => by
      obtain ⟨⟨a1, a2⟩, ⟨b1, b2⟩, ⟨c1, c2⟩, d⟩ := hs
      exact ⟨⟨cell_kept a1 hg hr, cell_kept a2 hg hr⟩, ⟨cell_kept b1 hg hr, cell_kept b2 hg hr⟩, ⟨(frozen_kept b1 hg hr).trans c1, (frozen_kept b2 hg hr).trans c2⟩, d⟩) _) (ownFrom_below (Nat.le_refl _) (by rw [Hsz0.out]; omega)))
    (fun c => OwnFrom.and (Own.from (fun s A B row hs hg hr => by
      obtain ⟨ys, x, h1, h2, (⟨h3, h4, ⟨b1, b2⟩, c1, c2⟩ | ⟨h3, h4, h5, b1, b2⟩)⟩ := hs
      · exact ⟨ys, x, h1, h2, .inl ⟨h3, h4, ⟨cell_kept b1 hg hr, cell_kept b2 hg hr⟩, (frozen_kept b1 hg hr).trans c1, (frozen_kept b2 hg hr).trans c2⟩⟩
      · exact ⟨ys, x, h1, h2, .inr ⟨h3, h4, h5, cell_kept b1 hg hr, cell_kept b2 hg hr⟩⟩) _) (ownFrom_below (Nat.le_refl _) (by rw [Hsz0.out]; omega)))
    ⟨⟨⟨hcn, hco⟩, ⟨hck, hcb⟩, ⟨hfk, hfb⟩, by simp [NoneOf]⟩, hB0⟩
    (fun x => { tmps := #[str l, Value.int .i64 n, Value.bool on, undef, .pointer (some ⟨w.heap.size, 0, none⟩), .pointer (some ⟨w.heap.size + 1, 0, none⟩), .pointer (some ⟨w.heap.size + 1 + 1, 0, none⟩), .pointer (some ⟨w.heap.size + 1 + 1 + 1, 0, none⟩), .int .i64 (x.val : Int), .bool (bitL l x.val), str l, .func (.func 219) #[] #[.pointer (some ⟨w.heap.size + 1 + 1 + 1 + 1 + 1, 0, none⟩), .pointer (some ⟨w.heap.size + 1 + 1 + 1 + 1, 0, none⟩)], .int .i64 (x.val : Int), .bool (bitL l x.val), undef, undef, undef, undef, undef, undef, undef, undef, undef], defers := [] }) ?assign ?body ?done ?stop
  case assign =>
    intro l x W K hK
    gi_wp2
    exact hK
  case body =>
    rintro y pre x W ⟨⟨⟨hn, ho⟩, ⟨hk, hb⟩, ⟨fk, fb⟩, ht⟩, hB⟩ hlen
    have Ht := Lib.hid ht
    clear ht hcn hco hck hcb hcs hca hfk hfb
    gi_wp2_with fail
    · rename_i h1
      exact ⟨KeepsOthers.refl _, ⟨pre, x, rfl, Ht.out, .inl ⟨rfl, h1, ⟨hk, hb⟩, fk, fb⟩⟩, hB⟩
    · rename_i h1 h2
      refine ⟨(KeepsOthers.setCell _ _ _).trans (KeepsOthers.setCell _ _ _), ⟨pre, x, rfl, Ht.out, .inr ⟨rfl, h1, by simpa using h2, ?_, ?_⟩⟩, (hB.setCell (p := ⟨w.heap.size + 1 + 1, 0, none⟩) (by simp; omega) _).setCell (p := ⟨w.heap.size + 1 + 1 + 1, 0, none⟩) (by simp; omega) _⟩
      · rw [World.cell?_setCell_other _ _ _ _ (by simp)]
        exact World.cell?_setCell_same' _ _ _ (by rw [hk]; rfl)
      · exact World.cell?_setCell_same' _ _ _ (by rw [World.cell?_setCell_other _ _ _ _ (by simp), hb]; rfl)
    · rename_i h1 h2
      refine ⟨KeepsOthers.refl _, KeepC.refl _ _, ⟨⟨hn, ho⟩, ⟨hk, hb⟩, ⟨fk, fb⟩, Ht.out.snoc x h1 ?_⟩, hB⟩
      revert h2
      cases on <;> cases bitL l x.val <;> simp
  case done =>
    rintro D ys W hD hS ⟨⟨⟨hn, ho⟩, ⟨hk, hb⟩, ⟨fk, fb⟩, ht⟩, hB⟩ hK
    have Ht := Lib.hid ht
    clear ht hcn hco hck hcb hcs hca hfk hfb
    gi_wp2_with fail
    rw [Exit.noGoto_ret]
    obtain ⟨hK', hb', r1, r2⟩ := stored hB hk hb hK (.int .i64 0) (.bool false)
    refine ⟨by simp, .inl ⟨_, _, rfl, run_takeDeferred hK', ?_⟩⟩
    refine ⟨.tuple #[.int .i64 0, .bool false], by simp [results, Tryz.f153, go_sem, r1, r2], ?_, hb'.trans (belowK_b (w := w) (Nat.le_refl _) _ D _ _ (by rw [Hsz0.out] at hD; omega) hK' rfl rfl)⟩
    have hmin : leastL l on (min n.toNat (8 * l.length)) = none := by
      rw [leastL_none]
      intro j hj
      exact (Ht.out ⟨j, by omega⟩ (hS.mem _ (by simp) (by simp; omega))).2
    rw [hmin]; rfl
  case stop =>
    rintro D c pre W hD ⟨k, hk, hrow⟩ ⟨⟨ys, x, rfl, ht, (⟨rfl, hx, ⟨hk, hb⟩, fk, fb⟩ | ⟨rfl, hx, hbit, hk, hb⟩)⟩, hB⟩ hK
    · have Ht := Lib.hid ht
      clear ht hcn hco hck hcb hcs hca hfk hfb
      gi_wp2_with fail
      rw [Exit.noGoto_ret]
      obtain ⟨hK', hb', r1, r2⟩ := stored hB hk hb hK (.int .i64 0) (.bool false)
      refine ⟨by simp, .inl ⟨_, _, rfl, run_takeDeferred hK', ?_⟩⟩
      refine ⟨.tuple #[.int .i64 0, .bool false], by simp [results, Tryz.f153, go_sem, r1, r2], ?_, hb'.trans (belowK_b (w := w) (Nat.le_refl _) _ D _ _ (by rw [Hsz0.out] at hD; omega) hK' rfl rfl)⟩
      obtain ⟨j, rfl, hr, hxj⟩ := hrow.unsnoc
      have hlx := x.isLt
      have hmin : leastL l on (min n.toNat (8 * l.length)) = none := by
        rw [leastL_none]
        intro i hi
        exact (Ht.out ⟨i, by omega⟩ (hr.mem _ (by simp) (by simp; omega))).2
      rw [hmin]; rfl
    · have Ht := Lib.hid ht
      clear ht hcn hco hck hcb hcs hca hfk hfb
      gi_wp2_with fail
      rw [Exit.noGoto_ret]
      have r1 := cell_kept hk (grownBy_putObj' _ D (.deferred none)) (fun r e => by cases e; exact ⟨_, hK, rfl⟩)
      have r2 := cell_kept hb (grownBy_putObj' _ D (.deferred none)) (fun r e => by cases e; exact ⟨_, hK, rfl⟩)
      refine ⟨by simp, .inl ⟨_, _, rfl, run_takeDeferred hK, ?_⟩⟩
      refine ⟨.tuple #[.int .i64 x.val, .bool true], by simp [results, Tryz.f153, go_sem, r1, r2], ?_, hB.trans (belowK_b (w := w) (Nat.le_refl _) _ D _ _ (by rw [Hsz0.out] at hD; omega) hK rfl rfl)⟩
      obtain ⟨j, rfl, hr, hxj⟩ := hrow.unsnoc
      have hlx := x.isLt
      have hmin : leastL l on (min n.toNat (8 * l.length)) = some x.val := by
        refine leastL_is l on _ _ (by omega) hbit ?_
        intro i hi
        exact (Ht.out ⟨i, by omega⟩ (hr.mem _ (by simp) (by simp; omega))).2
      rw [hmin]; rfl
end Go.Proofs.YtnfiapjdkjbdhaaGreat.Bits
/- Layer 6 (bits): Get, and Fill, Set and Make where they refuse. -/
namespace Go.Proofs.YtnfiapjdkjbdhaaGreat.Bits
open Go.RowKit Go.Shelf
set_option linter.unusedVariables false
set_option linter.unusedSimpArgs false
set_option maxRecDepth 10000
set_option maxHeartbeats 400000 in
theorem get_ok (l : List UInt8) (i : Nat) (w : World) (hl : l.length ≤ 1048576) (hi : i < 8 * l.length) :
    Calls Tryz.prog 149 #[str l, .int .i64 i] w fun e w' => e = .returned (.tuple #[.bool (bitL l i), .int .i64 0]) ∧ w' = w := by
  go_enter Tryz.func149, Tryz.ntmps149
  go_wp2_with fail
  refine (size_any l _ hl).mono ?_
  rintro e w1 ⟨rfl, rfl⟩
  go_wp2_with fail
  refine (isSet_any l i _ hl hi).mono ?_
  rintro e w2 ⟨rfl, rfl⟩
  go_wp2_with fail
  go_ret2
  exact ⟨rfl, rfl⟩
end Go.Proofs.YtnfiapjdkjbdhaaGreat.Bits
namespace Go.Proofs.YtnfiapjdkjbdhaaGreat.Bits
open Go.RowKit Go.Shelf
set_option linter.unusedVariables false
set_option linter.unusedSimpArgs false
set_option maxRecDepth 10000
attribute [local go_sem] Oper.semAt_some
def fillOf (l : List UInt8) (on : Bool) (xs : List (BitIx l)) : List UInt8 := xs.foldl (fun s x => setL s x.val on) l
theorem fillOf_snoc (l : List UInt8) (on : Bool) (xs : List (BitIx l)) (x : BitIx l) : fillOf l on (xs ++ [x]) = setL (fillOf l on xs) x.val on := by
  unfold fillOf
  rw [List.foldl_append]; rfl
theorem fillOf_row (l : List UInt8) (on : Bool) (a k : Nat) (xs : List (BitIx l)) (h : BitRow l a k xs) : fillOf l on xs = fillL l a on k := by
  induction k generalizing xs with
  | zero =>
    have := h.length
    have : xs = [] := List.length_eq_zero_iff.1 this
    subst this; rfl
  | succ k ih =>
    have hl := h.length
    obtain ⟨ys, x, rfl⟩ : ∃ ys x, xs = ys ++ [x] := by
      rcases List.eq_nil_or_concat xs with e | ⟨ys, x, e⟩
      · subst e; simp at hl
      · exact ⟨ys, x, by simpa using e⟩
    obtain ⟨j, hj, hr, hx⟩ := h.unsnoc
    obtain rfl : k = j := by omega
    rw [fillOf_snoc, ih _ hr, fillL, hx]
theorem fillOf_length (l : List UInt8) (on : Bool) (xs : List (BitIx l)) : (fillOf l on xs).length = l.length := by
  unfold fillOf
  suffices h : ∀ s : List UInt8, (xs.foldl (fun s x => setL s x.val on) s).length = s.length from h l
  induction xs with
  | nil => intro s; rfl
  | cons x xs ih => intro s; rw [List.foldl_cons, ih]; simp
theorem Bytes.kept {W W' : World} {g : Nat} {l : List UInt8} {row : Option Nat} (h : Bytes W g l) (hg : W.grownBy W' row) (hr : ∀ r, row = some r → ∃ o : Obj, W.heap[r]? = some o ∧ o.isCells = false) : Bytes W' g l := fun j hj =>
  ⟨cell_kept (h j hj).1 hg hr, (frozen_kept (h j hj).1 hg hr).trans (h j hj).2⟩
set_option maxRecDepth 100000 in
set_option maxHeartbeats 4000000 in
theorem fill_ok (l : List UInt8) (a m : Nat) (on : Bool) (w : World) (hl : l.length ≤ 1048576) (h : a + m ≤ 8 * l.length) :
    Calls Tryz.prog 137 #[str l, .int .i64 a, .int .i64 ((a + m : Nat) : Int), .bool on] w fun e w' => e = .returned (.tuple #[str (fillL l a on m), .int .i64 0]) ∧ Below w.heap.size w w' := by
  have hs := Lib.hid fun W => size_any l W hl
  obtain ⟨b, hb⟩ : ∃ b, b = a + m := ⟨_, rfl⟩
  rw [← hb]
  have hab : a ≤ b := by omega
  have hbl : b ≤ 8 * l.length := by omega
  have Hb := Lib.hid hb
  clear hb h
  have d1 : decide (b < a) = false := by simp; omega
  have d2 : decide (8 * (l.length : Int) < (b : Int)) = false := by simp; omega
  refine (callsIn_wide (n := 3)).1 ?_
  refine callsIn_of_wp_marks Tryz.func137 rfl trivial ?_ rfl
  simp only [Tryz.ntmps137, List.size_toArray, List.length_cons, List.length_nil, Nat.reduceAdd, Nat.reduceSub, Array.replicate_succ, Array.replicate_zero, List.push_toArray, List.append_toArray, List.nil_append, List.cons_append]
  gi_wp2_with fail
  refine (wpIn_wide (n := 3)).2 ?_
  go_quiet (refine Calls.quiet_of_same (hs.out _))
  obtain ⟨cap, W1, hcv, hby, hb1, hs1⟩ := bytes_of_string (P := Tryz.prog) ((w.alloc (.cells #[.int .i64 b] 3)).drewN nq) 9 53 5 l Tryz.underlying9 Tryz.underlying53 Tryz.underlying5
  have hs1' : W1.heap.size = w.heap.size + 1 + 1 := by rw [hs1]; simp
  have hby' : Bytes W1 (w.heap.size + 1) l := by simpa using hby
  have hb1' : Below (w.heap.size + 1) (w.alloc (.cells #[.int .i64 b] 3)) W1 := (below_drewN (Below.refl _ (w.alloc (.cells #[.int .i64 b] 3))) nq).trans (hb1.mono (by simp))
  have Hby := Lib.hid hby'
  have Hb1 := Lib.hid hb1'
  have Hs1 := Lib.hid hs1'
  clear hby hby' hb1 hb1' hs1 hs1'
  gi_wp2_with fail
  refine ⟨trivial, (callsIn_wide.2 (turner_any on _)).mono ?_⟩
  rintro e w3 ⟨rfl, rfl⟩
  gi_wp2_with fail
  refine ⟨trivial, (callsIn_wide.2 (bitsFrom_any l a _)).mono ?_⟩
  rintro e w4 ⟨rfl, rfl⟩
  gi_wp2_with fail
  obtain ⟨W0, hW0⟩ : ∃ W0, (((((W1.alloc (.cells #[Value.slice (some ⟨w.heap.size + 1, 0, none⟩) l.length cap] 53)).alloc (.cells #[Value.bool on] 4)).alloc (.cells #[Value.func (.func 220) #[] #[.pointer (some ⟨W1.heap.size + 1, 0, none⟩)]] 280)).alloc (.cells #[str l] 9)).alloc (.cells #[Value.int .i64 (a : Int)] 3)) = W0 := ⟨_, rfl⟩
  have hsz0 : W0.heap.size = W1.heap.size + 1 + 1 + 1 + 1 + 1 := by rw [← hW0]; simp
  have hB1 : Below W1.heap.size W1 W0 := by
    rw [← hW0]
    exact (((((Below.refl _ _).alloc (Nat.le_refl _) _).alloc (by simp) _).alloc (by simp; omega) _).alloc (by simp; omega) _).alloc (by simp; omega) _
  have hB0 : Below w.heap.size w W0 := (((Below.refl _ _).alloc (Nat.le_refl _) _).trans (Hb1.out.mono (by omega))).trans (hB1.mono (by have := Hs1.out; omega))
  obtain ⟨k1, k2, k3, k4, _⟩ := boxes4 W1 (Value.slice (some ⟨w.heap.size + 1, 0, none⟩) l.length cap) (.bool on) (.func (.func 220) #[] #[.pointer (some ⟨W1.heap.size + 1, 0, none⟩)]) (str l) 53 4 280 9
  have k5 := cell_new_l ((((W1.alloc (.cells #[Value.slice (some ⟨w.heap.size + 1, 0, none⟩) l.length cap] 53)).alloc (.cells #[Value.bool on] 4)).alloc (.cells #[Value.func (.func 220) #[] #[.pointer (some ⟨W1.heap.size + 1, 0, none⟩)]] 280)).alloc (.cells #[str l] 9)) (Value.int .i64 (a : Int)) 3
  simp only [World.size_alloc] at k5
  have k1 := cell_alloc_l (.cells #[Value.int .i64 (a : Int)] 3) k1
  have k2 := cell_alloc_l (.cells #[Value.int .i64 (a : Int)] 3) k2
  have k3 := cell_alloc_l (.cells #[Value.int .i64 (a : Int)] 3) k3
  have k4 := cell_alloc_l (.cells #[Value.int .i64 (a : Int)] 3) k4
  rw [hW0] at k1 k2 k3 k4 k5
  have k0 : W0.cell? ⟨w.heap.size, 0, none⟩ = some (.int .i64 (b : Int)) :=
    (hB1.cell (p := ⟨w.heap.size, 0, none⟩) (by have := Hs1.out; simp; omega)).trans ((Hb1.out.cell (p := ⟨w.heap.size, 0, none⟩) (by simp)).trans (cell_new_l w _ _))
  have hby0 : Bytes W0 (w.heap.size + 1) l := Hby.out.below hB1 (by have := Hs1.out; omega)
  rw [hW0]
  clear hW0 hcv
  have Hsz0 := Lib.hid hsz0
  have HB1 := Lib.hid hB1
  clear hsz0 hB1
  refine wpIn_rangeFunc_ownF rfl (by decide) (gf := 219) (lb := #[.pointer (some ⟨W1.heap.size + 1 + 1 + 1 + 1, 0, none⟩), .pointer (some ⟨W1.heap.size + 1 + 1 + 1, 0, none⟩)]) rfl trivial (enters_of Tryz.func219 (by kernel_rfl) rfl)
    (encs := fun (x : BitIx l) => #[.int .i64 (x.val : Int), .bool (bitL l x.val)]) (S := fun ys => BitRow l a (8 * l.length - a) ys) (Sp := fun pre => ∃ k, a + k ≤ 8 * l.length ∧ BitRow l a k pre) (N := 8 * l.length) (w0 := W0) (Kp := KeepC (W1.heap.size + 1 + 1 + 1))
    (fun y J Jx W hW hJ hJx hY h0 => bits_in l hl a (by omega) y (W1.heap.size + 1 + 1 + 1 + 1) (W1.heap.size + 1 + 1 + 1) J Jx hY W ((hW.cell (p := ⟨W1.heap.size + 1 + 1 + 1 + 1, 0, none⟩) (by rw [Hsz0.out]; simp)).trans k5) ((hW.cell (p := ⟨W1.heap.size + 1 + 1 + 1, 0, none⟩) (by rw [Hsz0.out]; simp)).trans k4) h0)
    (fun h k => h.trans k) (fun W q o o' _ hq ho _ => KeepC.putObj o' hq ho) (Below.refl _ _) (fun _ => rfl)
    (fun pre W => ((W.cell? ⟨w.heap.size, 0, none⟩ = some (.int .i64 (b : Int)) ∧ W.cell? ⟨W1.heap.size, 0, none⟩ = some (.slice (some ⟨w.heap.size + 1, 0, none⟩) l.length cap) ∧ W.cell? ⟨W1.heap.size + 1, 0, none⟩ = some (.bool on) ∧ W.cell? ⟨W1.heap.size + 1 + 1, 0, none⟩ = some (.func (.func 220) #[] #[.pointer (some ⟨W1.heap.size + 1, 0, none⟩)])) ∧ Bytes W (w.heap.size + 1) (fillOf l on pre) ∧ ∀ x ∈ pre, x.val ≠ b) ∧ Below w.heap.size w W)
    (fun c pre W => (c = .exit 0 ∧ ∃ ys x, pre = ys ++ [x] ∧ x.val = b ∧ W.cell? ⟨W1.heap.size, 0, none⟩ = some (.slice (some ⟨w.heap.size + 1, 0, none⟩) l.length cap) ∧ Bytes W (w.heap.size + 1) (fillOf l on ys)) ∧ Below w.heap.size w W)
    (OwnFrom.and (Own.from (fun s A B row hs hg hr => by
      obtain ⟨⟨a1, a2, a3, a4⟩, b1, c1⟩ := hs
      exact ⟨⟨cell_kept a1 hg hr, cell_kept a2 hg hr, cell_kept a3 hg hr, cell_kept a4 hg hr⟩, Bytes.kept b1 hg hr, c1⟩) _) (ownFrom_below (Nat.le_refl _) (by rw [Hsz0.out, Hs1.out]; omega)))
    (fun c => OwnFrom.and (Own.from (fun s A B row hs hg hr => by
      obtain ⟨h1, ys, x, h2, h3, h4, h5⟩ := hs
      exact ⟨h1, ys, x, h2, h3, cell_kept h4 hg hr, Bytes.kept h5 hg hr⟩) _) (ownFrom_below (Nat.le_refl _) (by rw [Hsz0.out, Hs1.out]; omega)))
    ⟨⟨⟨k0, k1, k2, k3⟩, hby0, by simp⟩, hB0⟩
    (fun x => { tmps := #[str l, .int .i64 (a : Int), .int .i64 (b : Int), .bool on, undef, undef, .pointer (some ⟨w.heap.size, 0, none⟩), undef, .string { data := #[] }, .int .i64 0, .pointer (some ⟨W1.heap.size, 0, none⟩), .pointer (some ⟨W1.heap.size + 1 + 1, 0, none⟩), .int .i64 (x.val : Int), .int .i64 (a : Int), .bool (decide ((a : Int) < 0)), .bool (decide ((a : Int) < 0)), .int .i64 (a : Int), .int .i64 (b : Int), .bool false, .bool (decide ((a : Int) < 0)), .bool (decide ((a : Int) < 0)), .int .i64 (b : Int), str l, .int .i64 (8 * (l.length : Int)), .bool false, .bool (decide ((a : Int) < 0)), str l, .slice (some ⟨w.heap.size + 1, 0, none⟩) l.length cap, .bool on, .func (.func 220) #[] #[.pointer (some ⟨W1.heap.size + 1, 0, none⟩)], str l, .int .i64 (a : Int), .func (.func 219) #[] #[.pointer (some ⟨W1.heap.size + 1 + 1 + 1 + 1, 0, none⟩), .pointer (some ⟨W1.heap.size + 1 + 1 + 1, 0, none⟩)], .int .i64 (x.val : Int), .bool (bitL l x.val), undef, undef, undef, undef, undef, undef, undef, undef, undef, undef, undef, undef, undef, undef, undef, undef, undef, undef], defers := [] }) ?assign ?body ?done ?stop
  case assign =>
    intro l x W K hK
    gi_wp2
    exact hK
  case body =>
    rintro y pre x W ⟨⟨⟨c0, c1, c2, c3⟩, hb, ht⟩, hB⟩ hlen
    clear k0 k1 k2 k3 k4 k5 hby0 hB0
    have hxl := x.isLt
    have hlen2 := fillOf_length l on pre
    by_cases hx : x.val = b
    · have Hb2 := Lib.hid hb
      have Ht := Lib.hid ht
      have Hx := Lib.hid hx
      have hxx : ((x.val : Int) == (b : Int)) = true := by simp [hx]
      clear hb ht hx hlen2
      gi_wp2_with fail
      exact ⟨KeepsOthers.refl _, ⟨rfl, pre, x, rfl, Hx.out, c1, Hb2.out⟩, hB⟩
    · have hxx : ((x.val : Int) == (b : Int)) = false := by simp; omega
      have hx8 : x.val / 8 < (fillOf l on pre).length := by rw [hlen2]; omega
      have hsn := fillOf_snoc l on pre x
      obtain ⟨cb, fb⟩ := hb _ hx8
      have hset : Bytes (W.setCell ⟨w.heap.size + 1, x.val / 8, none⟩ (.int .u8 ((turnB on ((fillOf l on pre)[x.val / 8]) (x.val % 8)).toNat : Int))) (w.heap.size + 1) (fillOf l on (pre ++ [x])) := by
        rw [hsn]
        have := hb.set (x.val / 8) _ (turnB on ((fillOf l on pre)[x.val / 8]) (x.val % 8)) rfl hx8
        unfold setL
        rw [List.getD_eq_getElem?_getD, List.getElem?_eq_getElem hx8]
        exact this
      have Hset := Lib.hid hset
      have Ht := Lib.hid ht
      have Hx := Lib.hid hx
      clear hb ht hx hsn hset hlen
      generalize hqq : (fillOf l on pre)[x.val / 8] = q at cb fb Hset
      have hqlt := q.toNat_lt
      have hx9 : x.val / 8 < l.length := by omega
      have ht1 := turner1_any on q (x.val % 8) (W1.heap.size + 1) W.drew (Nat.mod_lt _ (by omega)) c2
      rw [Int.natCast_emod, show ((8 : Nat) : Int) = 8 from rfl] at ht1
      have Ht1 := Lib.hid ht1
      have e1 : IntKind.i64.wrap ((x.val : Int) / 8) = (x.val : Int) / 8 := IntWalk.i64_in _ (by omega)
      have e2 : (0 : Int) ≤ (x.val : Int) / 8 := by omega
      have e3 : (x.val : Int) / 8 < (l.length : Int) := by omega
      have e4 : ((x.val : Int) / 8).toNat = x.val / 8 := by omega
      clear hqq ht1 hx8 hlen2
      generalize (turnB on q (x.val % 8)).toNat = z at Hset Ht1
      gi_wp2_with fail
      refine wpIn_mono (Q := fun e _ V' => e = .normal ∧ V' = (W.setCell ⟨w.heap.size + 1, x.val / 8, none⟩ (.int .u8 (z : Int))).drew) ?reg ?post
      case reg =>
        clear Hset Ht Hx Hsz0 HB1 Hby Hb1 hs d1 d2 Hs1
        refine still_round 13 (by kernel_rfl) (noDefer_of _ (by kernel_rfl)) (by rintro ⟨_, _, h, _⟩; cases h) (by kernel_rfl) ?_
        simp only [List.take_succ_cons, List.take_zero, List.drop_succ_cons, List.drop_zero]
        repeat still_step
        still_call Ht1.out
        repeat still_step
        refine wpStill_nil ?_
        go_wp2
      case post =>
        rintro e a' V' ⟨rfl, rfl⟩
        gi_wp2_with fail
        refine ⟨(KeepsOthers.setCell _ _ _).trans (KeepsOthers.drew _), (KeepC.setCell _ _ _ (by have := Hs1.out; simp; omega)).trans (KeepC.drew _ _), ⟨⟨?_, ?_, ?_, ?_⟩, (Hset.out).drew, ?_⟩, (hB.setCell (p := ⟨w.heap.size + 1, x.val / 8, none⟩) (by simp) _).drew⟩
        · show (W.setCell _ _).cell? _ = _
          rw [World.cell?_setCell_other _ _ _ _ (by simp)]; exact c0
        · show (W.setCell _ _).cell? _ = _
          rw [World.cell?_setCell_other _ _ _ _ (by have := Hs1.out; intro e; injection e; omega)]; exact c1
        · show (W.setCell _ _).cell? _ = _
          rw [World.cell?_setCell_other _ _ _ _ (by have := Hs1.out; intro e; injection e; omega)]; exact c2
        · show (W.setCell _ _).cell? _ = _
          rw [World.cell?_setCell_other _ _ _ _ (by have := Hs1.out; intro e; injection e; omega)]; exact c3
        · intro u hu
          rcases List.mem_append.1 hu with e | e
          · exact Ht.out u e
          · rw [List.mem_singleton.1 e]; exact Hx.out
  case done =>
    rintro D ys W hD hS ⟨⟨⟨c0, c1, c2, c3⟩, hb, ht⟩, hB⟩ hK
    clear k0 k1 k2 k3 k4 k5 hby0 hB0
    have hlen := fillOf_length l on ys
    have hcv := string_of_bytes (P := Tryz.prog) 53 9 5 Tryz.underlying53 Tryz.underlying5 Tryz.underlying9 W (w.heap.size + 1) cap _ hb
    rw [hlen] at hcv
    have Ht := Lib.hid ht
    clear ht hb hlen
    gi_wp2_with fail
    refine ⟨by simp, .inl ⟨_, _, rfl, run_takeDeferred hK, ?_⟩⟩
    refine ⟨_, results_tmp2 rfl _ _ _, ?_, hB.trans (belowK_b (w := w) (Nat.le_refl _) W D _ _ (by rw [Hsz0.out, Hs1.out] at hD; omega) hK rfl rfl)⟩
    have hm : m = 8 * l.length - a := by
      have := Hb.out
      rcases Nat.lt_or_ge b (8 * l.length) with h0 | h0
      · exact absurd rfl (Ht.out ⟨b, h0⟩ (hS.mem _ (by simp; omega) (by simp; omega)))
      · omega
    rw [hm, ← fillOf_row l on a _ ys hS]; rfl
  case stop =>
    rintro D c pre W hD ⟨k, hk, hrow⟩ ⟨⟨rfl, ys, x, rfl, hx, c1, hb⟩, hB⟩ hK
    clear k0 k1 k2 k3 k4 k5 hby0 hB0
    have hlen := fillOf_length l on ys
    have hcv := string_of_bytes (P := Tryz.prog) 53 9 5 Tryz.underlying53 Tryz.underlying5 Tryz.underlying9 W (w.heap.size + 1) cap _ hb
    rw [hlen] at hcv
    have Hx := Lib.hid hx
    clear hb hlen hx
    gi_wp2_with fail
    refine ⟨by simp, .inl ⟨_, _, rfl, run_takeDeferred hK, ?_⟩⟩
    refine ⟨_, results_tmp2 rfl _ _ _, ?_, hB.trans (belowK_b (w := w) (Nat.le_refl _) W D _ _ (by rw [Hsz0.out, Hs1.out] at hD; omega) hK rfl rfl)⟩
    obtain ⟨j, rfl, hr, hxj⟩ := hrow.unsnoc
    have hm : m = j := by
      have := Hb.out
      have := Hx.out
      omega
    rw [hm, ← fillOf_row l on a _ ys hr]; rfl
end Go.Proofs.YtnfiapjdkjbdhaaGreat.Bits
/- Layer 10 (dirs): entries, slots, directories; plain mathematics. -/
namespace Go.Proofs.YtnfiapjdkjbdhaaGreat.Dirs
set_option linter.unusedVariables false
set_option linter.unusedSimpArgs false
set_option maxRecDepth 10000
structure En where
  n : List UInt8
  i : Nat
deriving DecidableEq
instance : Inhabited En := ⟨⟨[], 0⟩⟩
def En.free : En := ⟨[], 0⟩
def oddB (b : UInt8) : Bool := b == 47 || b == 0
def nameB (l : List UInt8) : Bool := decide (1 ≤ l.length ∧ l.length ≤ 27 ∧ l ≠ [46] ∧ l ≠ [46, 46]) && !(l.any oddB)
def mayB (x : En) : Bool := x.i != 0 && nameB x.n
def slotL (x : En) : List UInt8 := leB 4 x.i ++ (UInt8.ofNat x.n.length :: x.n) ++ List.replicate (27 - x.n.length) 0
def freeL : List UInt8 := List.replicate 32 0
def name8 : List UInt8 → List UInt8
  | [] => []
  | b :: r => if b.toNat ≤ r.length then r.take b.toNat else []
def getE (s : List UInt8) : En := ⟨name8 (s.drop 4), leV (s.take 4)⟩
def okS (s : List UInt8) : Bool := (decide (getE s = En.free) || mayB (getE s)) && decide (slotL (getE s) = s)
def okE (x : En) : Prop := x = En.free ∨ (mayB x = true ∧ x.i < 4294967296)
theorem nameB_len {l : List UInt8} (h : nameB l = true) : 1 ≤ l.length ∧ l.length ≤ 27 := by
  simp [nameB] at h
  exact ⟨by have := h.1.1; omega, h.1.2.1⟩
theorem mayB_len {x : En} (h : mayB x = true) : x.i ≠ 0 ∧ 1 ≤ x.n.length ∧ x.n.length ≤ 27 := by
  simp only [mayB, Bool.and_eq_true, bne_iff_ne] at h
  exact ⟨h.1, nameB_len h.2⟩
theorem okE.len {x : En} (h : okE x) : x.n.length ≤ 27 := by
  rcases h with rfl | ⟨h, _⟩
  · exact Nat.zero_le _
  · exact (mayB_len h).2.2
theorem okE.lt {x : En} (h : okE x) : x.i < 4294967296 := by
  rcases h with rfl | ⟨_, h⟩
  · decide
  · exact h
theorem slotL_length {x : En} (h : x.n.length ≤ 27) : (slotL x).length = 32 := by
  simp [slotL, leB_length]; omega
theorem slotL_free : slotL En.free = freeL := by decide
theorem freeL_length : freeL.length = 32 := by decide
theorem ofNat_len {n : Nat} (h : n ≤ 27) : (UInt8.ofNat n).toNat = n := by
  rw [UInt8.toNat_ofNat']; exact Nat.mod_eq_of_lt (by omega)
theorem getE_slotL {x : En} (hn : x.n.length ≤ 27) (hi : x.i < 4294967296) : getE (slotL x) = x := by
  have h4 : (leB 4 x.i).length = 4 := leB_length _ _
  have e1 : (slotL x).take 4 = leB 4 x.i := by
    unfold slotL
    rw [List.append_assoc, List.take_append_of_le_length (by omega), List.take_of_length_le (by omega)]
  have e2 : (slotL x).drop 4 = UInt8.ofNat x.n.length :: (x.n ++ List.replicate (27 - x.n.length) 0) := by
    unfold slotL
    rw [List.append_assoc, List.drop_append_of_le_length (by omega), List.drop_of_length_le (by omega)]
    rfl
  unfold getE
  rw [e1, e2, leV_leB _ _ hi]
  simp only [name8, ofNat_len hn]
  rw [if_pos (by simp)]
  simp
theorem okE.get {x : En} (h : okE x) : getE (slotL x) = x := getE_slotL h.len h.lt
theorem okS_slotL {x : En} (h : okE x) : okS (slotL x) = true := by
  unfold okS
  rw [h.get]
  rcases h with rfl | ⟨h, _⟩
  · simp
  · simp [h]
theorem leV_lt4 (s : List UInt8) : leV (s.take 4) < 4294967296 := by
  have h := leV_lt (s.take 4)
  have h2 : (s.take 4).length ≤ 4 := by simp; omega
  exact Nat.lt_of_lt_of_le h (Nat.pow_le_pow_right (by decide) h2)
theorem okS_okE {s : List UInt8} (h : okS s = true) : okE (getE s) ∧ slotL (getE s) = s := by
  simp only [okS, Bool.and_eq_true, Bool.or_eq_true, decide_eq_true_eq] at h
  refine ⟨?_, h.2⟩
  rcases h.1 with h1 | h1
  · exact .inl h1
  · exact .inr ⟨h1, leV_lt4 s⟩
theorem name8_len {s : List UInt8} (h : s.length ≤ 28) : (name8 s).length ≤ 27 := by
  cases s with
  | nil => simp [name8]
  | cons b r =>
    simp only [name8, List.length_cons] at *
    split
    · simp; omega
    · simp
theorem getE_len {s : List UInt8} (h : s.length = 32) : (getE s).n.length ≤ 27 := name8_len (by simp; omega)
def slots (s : List UInt8) : List (List UInt8) := partsL 32 8192 s
def sizeB (s : List UInt8) : Bool := decide (s.length % 64 = 0 ∧ s.length ≤ 2304)
def uniq (l : List En) : Prop := l.Pairwise fun x y => x.n = y.n → y.n = []
instance (l : List En) : Decidable (uniq l) := inferInstanceAs (Decidable (l.Pairwise fun x y => x.n = y.n → y.n = []))
def formB (s : List UInt8) : Bool := sizeB s && (slots s).all okS
def chk (s : List UInt8) : Nat := if formB s = true then (if uniq ((slots s).map getE) then 0 else 9) else 7
def ents (s : List UInt8) : List En := if chk s = 0 then (slots s).map getE else []
def pad72 (l : List En) : List En := l ++ List.replicate (72 - l.length) En.free
theorem pad72_length {l : List En} (h : l.length ≤ 72) : (pad72 l).length = 72 := by simp [pad72]; omega
def text (l : List En) : List UInt8 := (l.map slotL).flatten
structure Dir (l : List En) : Prop where
  even : l.length % 2 = 0
  le : l.length ≤ 72
  ok : ∀ x ∈ l, okE x
  uniq : uniq l
theorem partsL_get (n : Nat) (hn : 0 < n) : ∀ (f : Nat) (l : List UInt8), l.length ≤ f → l.length % n = 0 → ∀ k, (partsL n f l)[k]? = if k < l.length / n then some ((l.drop (n * k)).take n) else none := by
  intro f
  induction f with
  | zero =>
    intro l h _ k
    have : l = [] := List.eq_nil_of_length_eq_zero (by omega)
    subst this; simp [partsL]
  | succ f ih =>
    intro l h hm k
    by_cases h0 : l = []
    · subst h0; simp [partsL]
    · have hp : 0 < l.length := List.length_pos_iff.2 h0
      have hle : n ≤ l.length := Nat.le_of_dvd hp (Nat.dvd_of_mod_eq_zero hm)
      have hd : l.length / n = (l.length - n) / n + 1 := by rw [Nat.div_eq_sub_div hn hle]
      rw [partsL, if_neg h0]
      cases k with
      | zero => simp [hd]
      | succ k =>
        rw [List.getElem?_cons_succ, ih _ (by simp; omega) (by rw [List.length_drop, Nat.mod_eq_sub_mod hle] at *; exact hm), List.length_drop, hd]
        rw [List.drop_drop, show n + n * k = n * (k + 1) by rw [Nat.mul_add]; omega]
        simp [Nat.add_lt_add_iff_right]
theorem slots_get {s : List UInt8} (h : sizeB s = true) (k : Nat) : (slots s)[k]? = if k < s.length / 32 then some ((s.drop (32 * k)).take 32) else none := by
  simp only [sizeB, decide_eq_true_eq] at h
  exact partsL_get 32 (by decide) 8192 s (by omega) (by omega) k
theorem slots_length {s : List UInt8} (h : sizeB s = true) : (slots s).length = s.length / 32 := by
  have h1 := slots_get h (slots s).length
  have h2 := slots_get h (s.length / 32)
  have h3 := fun k => slots_get h k
  rw [List.getElem?_eq_none (Nat.le_refl _)] at h1
  rw [if_neg (by omega)] at h2
  have h4 := List.getElem?_eq_none_iff.1 h2
  split at h1
  · cases h1
  · omega
theorem sizeB_facts {s : List UInt8} (h : sizeB s = true) : s.length % 64 = 0 ∧ s.length ≤ 2304 := by simpa [sizeB] using h
theorem slots_le {s : List UInt8} (h : sizeB s = true) : (slots s).length ≤ 72 ∧ (slots s).length % 2 = 0 := by
  have := sizeB_facts h
  rw [slots_length h]; omega
theorem slots_each {s : List UInt8} (h : sizeB s = true) {p : List UInt8} (hp : p ∈ slots s) : p.length = 32 := by
  obtain ⟨k, hk⟩ := List.getElem?_of_mem hp
  rw [slots_get h] at hk
  have := sizeB_facts h
  split at hk
  · cases hk; simp; omega
  · cases hk
theorem slots_flat {s : List UInt8} (h : sizeB s = true) : (slots s).flatten = s := by
  have := sizeB_facts h
  exact partsL_flat 32 (by decide) 8192 s (by omega)
theorem text_length {l : List En} (h : ∀ x ∈ l, x.n.length ≤ 27) : (text l).length = 32 * l.length := by
  induction l with
  | nil => rfl
  | cons x r ih =>
    have h1 := slotL_length (h x (by simp))
    have h2 := ih fun y hy => h y (by simp [hy])
    unfold text at *
    rw [List.map_cons, List.flatten_cons, List.length_append, h1, h2, List.length_cons]
    omega
theorem text_cons (x : En) (l : List En) : text (x :: l) = slotL x ++ text l := by simp [text]
theorem Dir.len {l : List En} (h : Dir l) : (text l).length = 32 * l.length := text_length fun x hx => (h.ok x hx).len
theorem Dir.sizeB {l : List En} (h : Dir l) : sizeB (text l) = true := by
  have := h.even; have := h.le
  simp [Go.Proofs.YtnfiapjdkjbdhaaGreat.Dirs.sizeB, h.len]; omega
theorem slots_text {l : List En} (hl : l.length ≤ 72) (h : ∀ x ∈ l, okE x) : slots (text l) = l.map slotL := by
  have key : ∀ (f : Nat) (l : List En), 32 * l.length ≤ f → (∀ x ∈ l, okE x) → partsL 32 f (text l) = l.map slotL := by
    intro f
    induction f with
    | zero =>
      intro l hf _
      have : l = [] := List.eq_nil_of_length_eq_zero (by omega)
      subst this; rfl
    | succ f ih =>
      intro l hf hok
      cases l with
      | nil => rfl
      | cons x r =>
        have hx := slotL_length (hok x (by simp)).len
        rw [List.length_cons] at hf
        have hne : slotL x ++ text r ≠ [] := by
          intro e
          have := congrArg List.length e
          rw [List.length_append, hx] at this
          simp at this
        rw [text_cons, partsL, if_neg hne, List.take_append_of_le_length (by omega), List.take_of_length_le (by omega), List.drop_append_of_le_length (by omega), List.drop_of_length_le (by omega), List.nil_append, ih r (by omega) fun y hy => hok y (by simp [hy])]
        rfl
  exact key 8192 l (by omega) h
theorem map_get_slots {l : List En} (h : ∀ x ∈ l, okE x) : (l.map slotL).map getE = l := by
  rw [List.map_map]
  conv => rhs; rw [← List.map_id l]
  exact List.map_congr_left fun x hx => (h x hx).get
theorem Dir.chk {l : List En} (h : Dir l) : chk (text l) = 0 := by
  have h1 := slots_text h.le h.ok
  unfold Go.Proofs.YtnfiapjdkjbdhaaGreat.Dirs.chk formB
  rw [h.sizeB, h1, map_get_slots h.ok, if_pos h.uniq]
  rw [if_pos]
  simp only [Bool.true_and, List.all_eq_true]
  intro p hp
  obtain ⟨x, hx, rfl⟩ := List.mem_map.1 hp
  exact okS_slotL (h.ok x hx)
theorem Dir.ents {l : List En} (h : Dir l) : ents (text l) = l := by
  unfold Go.Proofs.YtnfiapjdkjbdhaaGreat.Dirs.ents
  rw [if_pos h.chk, slots_text h.le h.ok, map_get_slots h.ok]
theorem chk_dir {s : List UInt8} (h : chk s = 0) : Dir (ents s) ∧ s = text (ents s) := by
  unfold ents
  rw [if_pos h]
  unfold chk at h
  split at h
  case isFalse => cases h
  case isTrue hf =>
    split at h
    case isFalse => cases h
    case isTrue hu =>
      simp only [formB, Bool.and_eq_true, List.all_eq_true] at hf
      obtain ⟨hs, ha⟩ := hf
      have hl := slots_le hs
      refine ⟨⟨by simpa using hl.2, by simpa using hl.1, ?_, hu⟩, ?_⟩
      · intro x hx
        obtain ⟨p, hp, rfl⟩ := List.mem_map.1 hx
        exact (okS_okE (ha p hp)).1
      · conv => lhs; rw [← slots_flat hs]
        unfold text
        rw [List.map_map]
        congr 1
        conv => lhs; rw [← List.map_id (slots s)]
        exact List.map_congr_left fun p hp => ((okS_okE (ha p hp)).2).symm
theorem ents_bad {s : List UInt8} (h : chk s ≠ 0) : ents s = [] := if_neg h
theorem ents_le (s : List UInt8) : (ents s).length ≤ 72 := by
  by_cases h : chk s = 0
  · exact (chk_dir h).1.le
  · rw [ents_bad h]; simp
end Go.Proofs.YtnfiapjdkjbdhaaGreat.Dirs
namespace Go.Proofs.YtnfiapjdkjbdhaaGreat.Dirs
set_option linter.unusedVariables false
set_option linter.unusedSimpArgs false
set_option maxRecDepth 10000
theorem oddB_false {b : UInt8} (h : 128 ≤ b.toNat) : oddB b = false := by
  simp only [oddB, Bool.or_eq_false_iff, beq_eq_false_iff_ne]
  exact ⟨fun e => by rw [e] at h; simp at h, fun e => by rw [e] at h; simp at h⟩
theorem oddB_iff {b : UInt8} : oddB b = true ↔ b.toNat = 47 ∨ b.toNat = 0 := by
  simp only [oddB, Bool.or_eq_true, beq_iff_eq]
  constructor
  · rintro (h | h) <;> subst h <;> decide
  · rintro (h | h)
    · exact .inl (UInt8.toNat_inj.1 h)
    · exact .inr (UInt8.toNat_inj.1 h)
theorem get_bang (l : List UInt8) (j : Nat) (h : j < l.length) : ((⟨l.toArray⟩ : ByteArray).get! j) = l[j] := by
  show l.toArray[j]! = l[j]
  simp [h]
theorem decode_kinds (l : List UInt8) (pos : Nat) (h : pos < l.length) :
    (oddB l[pos] = true ∧ ((Utf8.decode ⟨l.toArray⟩ pos).1 = 47 ∨ (Utf8.decode ⟨l.toArray⟩ pos).1 = 0)) ∨
    (¬ ((Utf8.decode ⟨l.toArray⟩ pos).1 = 47 ∨ (Utf8.decode ⟨l.toArray⟩ pos).1 = 0) ∧ pos + (Utf8.decode ⟨l.toArray⟩ pos).2 ≤ l.length ∧ ∀ j (hj : j < l.length), pos ≤ j → j < pos + (Utf8.decode ⟨l.toArray⟩ pos).2 → oddB l[j] = false) := by
  have hsz : (⟨l.toArray⟩ : ByteArray).size = l.length := by simp [ByteArray.size]
  have g0 := get_bang l pos h
  have hc : ∀ k, (decide (pos + k < l.length) && ((⟨l.toArray⟩ : ByteArray).get! (pos + k)).toNat / 64 == 2) = true → pos + k < l.length ∧ ∀ hj : pos + k < l.length, oddB l[pos + k] = false := by
    intro k hk
    simp only [Bool.and_eq_true, decide_eq_true_eq, beq_iff_eq] at hk
    refine ⟨hk.1, fun hj => oddB_false ?_⟩
    rw [← get_bang l _ hj]; omega
  by_cases hb : (l[pos]).toNat < 128
  · have e : Utf8.decode ⟨l.toArray⟩ pos = ((l[pos]).toNat, 1) := by
      unfold Utf8.decode
      simp only [Nat.add_zero, g0]
      rw [if_pos hb]
    rw [e]
    by_cases ho : oddB l[pos] = true
    · exact .inl ⟨ho, oddB_iff.1 ho⟩
    · refine .inr ⟨fun h2 => ho (oddB_iff.2 h2), by simp only; omega, fun j hj h1 h2 => ?_⟩
      obtain rfl : j = pos := by simp only at h2; omega
      simpa using ho
  · have h0 : oddB l[pos] = false := oddB_false (by omega)
    have one : ∀ j (hj : j < l.length), pos ≤ j → j < pos + 1 → oddB l[j] = false := by
      intro j hj h1 h2
      obtain rfl : j = pos := by omega
      exact h0
    refine .inr ?_
    unfold Utf8.decode
    simp only [Nat.add_zero, g0, hsz]
    rw [if_neg hb]
    split
    · rename_i hq
      simp only [Bool.and_eq_true] at hq
      have c1 := hc 1 (by simpa using hq.2)
      split
      · rename_i hv
        refine ⟨by simp only; omega, by simp only; omega, fun j hj h1 h2 => ?_⟩
        simp only at h2
        rcases Nat.lt_or_ge j (pos + 1) with h3 | h3
        · exact one j hj h1 h3
        · obtain rfl : j = pos + 1 := by omega
          exact c1.2 hj
      · exact ⟨by simp only [Utf8.runeError]; omega, by simp only; omega, one⟩
    · split
      · rename_i hq
        simp only [Bool.and_eq_true] at hq
        have c1 := hc 1 (by simpa using hq.1.2)
        have c2 := hc 2 (by simpa using hq.2)
        split
        · rename_i hv
          simp only [Bool.and_eq_true, decide_eq_true_eq] at hv
          refine ⟨by simp only; omega, by simp only; omega, fun j hj h1 h2 => ?_⟩
          simp only at h2
          rcases Nat.lt_or_ge j (pos + 1) with h3 | h3
          · exact one j hj h1 h3
          · rcases Nat.lt_or_ge j (pos + 2) with h4 | h4
            · obtain rfl : j = pos + 1 := by omega
              exact c1.2 hj
            · obtain rfl : j = pos + 2 := by omega
              exact c2.2 hj
        · exact ⟨by simp only [Utf8.runeError]; omega, by simp only; omega, one⟩
      · split
        · rename_i hq
          simp only [Bool.and_eq_true] at hq
          have c1 := hc 1 (by simpa using hq.1.1.2)
          have c2 := hc 2 (by simpa using hq.1.2)
          have c3 := hc 3 (by simpa using hq.2)
          split
          · rename_i hv
            simp only [Bool.and_eq_true, decide_eq_true_eq] at hv
            refine ⟨by simp only; omega, by simp only; omega, fun j hj h1 h2 => ?_⟩
            simp only at h2
            rcases Nat.lt_or_ge j (pos + 1) with h3 | h3
            · exact one j hj h1 h3
            · rcases Nat.lt_or_ge j (pos + 2) with h4 | h4
              · obtain rfl : j = pos + 1 := by omega
                exact c1.2 hj
              · rcases Nat.lt_or_ge j (pos + 3) with h5 | h5
                · obtain rfl : j = pos + 2 := by omega
                  exact c2.2 hj
                · obtain rfl : j = pos + 3 := by omega
                  exact c3.2 hj
          · exact ⟨by simp only [Utf8.runeError]; omega, by simp only; omega, one⟩
        · exact ⟨by simp only [Utf8.runeError]; omega, by simp only; omega, one⟩
end Go.Proofs.YtnfiapjdkjbdhaaGreat.Dirs
namespace Go.Proofs.YtnfiapjdkjbdhaaGreat.Dirs
open Go.RowKit Go.Lib
set_option linter.unusedVariables false
set_option linter.unusedSimpArgs false
set_option maxRecDepth 10000
abbrev En.v (x : En) : Value := .agg #[str x.n, .int .u32 (x.i : Int)]
def enC (l : List En) : List Value := l.flatMap fun x => [str x.n, .int .u32 (x.i : Int)]
abbrev entsV (l : List En) : Value := .agg (enC l).toArray
theorem entsInfo : (Tryz.prog.info? 195).map (fun i => (i.zero, i.size)) = some (some (entsV (List.replicate 72 En.free)), 144) := by kernel_rfl
def nameE (l : List UInt8) : Int := if nameB l = true then 0 else 2
def runeB (r : Nat) : Bool := r == 47 || r == 0
theorem strange_any (r : Nat) (w : World) (hr : r ≤ 1114111) : Calls Tryz.prog 209 #[.int .i32 (r : Int)] w fun e w' => e = .returned (.bool (runeB r)) ∧ w = w' := by
  by_cases h1 : r = 47
  · subst h1
    go_enter Tryz.func209, Tryz.ntmps209
    go_wp2
    go_ret
    exact ⟨rfl, rfl⟩
  · have q1 : ((r : Int) == 47) = false := by simp; omega
    by_cases h2 : r = 0
    · subst h2
      go_enter Tryz.func209, Tryz.ntmps209
      go_wp2
      go_ret
      exact ⟨rfl, rfl⟩
    · have q2 : ((r : Int) == 0) = false := by simp; omega
      have q3 : runeB r = false := by simp [runeB, h1, h2]
      have Q3 := Lib.hid q3
      clear h1 h2 q3
      go_enter Tryz.func209, Tryz.ntmps209
      go_wp2
      go_ret
      exact ⟨by rw [Q3.out]; rfl, rfl⟩
def Found (l : List UInt8) (i : Int) : Prop := (0 ≤ i ↔ l.any oddB = true) ∧ -1 ≤ i
set_option maxHeartbeats 1000000 in
theorem indexFunc_any (l : List UInt8) (w : World) :
    Calls Tryz.prog 245 #[str l, .func (.func 209) #[] #[], .bool true] w fun e w' => (∃ i, e = .returned (.int .i64 i) ∧ Found l i) ∧ Below w.heap.size w w' := by
  have hsz : (⟨l.toArray⟩ : ByteArray).size = l.length := by simp [ByteArray.size]
  have Hsz := Lib.hid hsz
  clear hsz
  go_enter Tryz.func245, Tryz.ntmps245
  go_wp2
  go_loopg [] l.length (fun gf wx => ∃ pos : Nat, wx.heap[w.heap.size]? = some (.stringIter ⟨l.toArray⟩ pos) ∧ Below w.heap.size w wx ∧ (∀ j (hj : j < l.length), j < pos → oddB l[j] = false) ∧ l.length ≤ pos + gf)
  case atStart => exact ⟨0, World.iter_heap w _ 0, (Below.refl _ w).alloc (Nat.le_refl _) _, fun j _ h => absurd h (Nat.not_lt_zero _), by omega⟩
  case round =>
    obtain ⟨pos, hit, hbw, hno, hfu⟩ := hrel
    have Hno := Lib.hid hno
    clear hno
    by_cases hps : pos < l.length
    · obtain ⟨g', rfl⟩ : ∃ g', gk = g' + 1 := ⟨gk - 1, by omega⟩
      have hnx : ∀ ty, (Instr.next (.pointer (some ⟨w.heap.size, 0, none⟩)) true ty).run Tryz.prog wr = _ := fun ty => Lib.run_next_any_at wr w.heap.size ⟨l.toArray⟩ pos ty hit (by rw [Hsz.out]; exact hps)
      have hwd := Lib.width_pos ⟨l.toArray⟩ pos
      have hkk := decode_kinds l pos hps
      have hle := Lib.rune_le ⟨l.toArray⟩ pos
      obtain ⟨R, hR⟩ : ∃ R, (Utf8.decode ⟨l.toArray⟩ pos).1 = R := ⟨_, rfl⟩
      obtain ⟨K, hK⟩ : ∃ K, (Utf8.decode ⟨l.toArray⟩ pos).2 = K := ⟨_, rfl⟩
      rw [hR, hK] at hnx hkk
      rw [hK] at hwd
      rw [hR] at hle
      have hit2 := Lib.iterAt_heap wr w.heap.size ⟨l.toArray⟩ pos (pos + K) hit
      have hbw2 := Lib.below_iterAt hbw (k := w.heap.size) (Nat.le_refl _) ⟨l.toArray⟩ (pos + K)
      obtain ⟨W, hWd⟩ : ∃ W, wr.iterAt w.heap.size ⟨l.toArray⟩ (pos + K) = W := ⟨_, rfl⟩
      rw [hWd] at hnx hit2 hbw2
      have hcall := strange_any R W hle
      have Hkk := Lib.hid hkk
      clear hkk hR hK hWd hit hbw
      cases hb : runeB R with
      | true =>
        rw [hb] at hcall
        have Hb := Lib.hid hb
        clear hb
        go_wp2_with (go_at_call 209; refine hcall.mono ?_; rintro e W' ⟨rfl, rfl⟩)
        go_ret
        refine ⟨⟨_, rfl, ?_, by omega⟩, hbw2⟩
        rcases Hkk.out with ⟨h1, _⟩ | ⟨h1, _⟩
        · simp only [Int.natCast_nonneg, true_iff]
          exact List.any_eq_true.2 ⟨_, List.getElem_mem hps, h1⟩
        · exact absurd (by simpa [runeB] using Hb.out) h1
      | false =>
        rw [hb] at hcall
        have Hb := Lib.hid hb
        clear hb
        go_wp2_with (go_at_call 209; refine hcall.mono ?_; rintro e W' ⟨rfl, rfl⟩)
        go_roundg g'
        case measure => omega
        case rel =>
          refine ⟨pos + K, hit2, hbw2, fun j hj h => ?_, by omega⟩
          rcases Nat.lt_or_ge j pos with h2 | h2
          · exact Hno.out j hj h2
          · rcases Hkk.out with ⟨_, h1⟩ | ⟨_, _, h1⟩
            · have := Hb.out
              simp [runeB] at this
              omega
            · exact h1 j hj h2 h
    · have hnx : ∀ ty, (Instr.next (.pointer (some ⟨w.heap.size, 0, none⟩)) true ty).run Tryz.prog wr = _ := fun ty => Lib.run_next_end_at wr w.heap.size ⟨l.toArray⟩ pos ty hit (by rw [Hsz.out]; exact hps)
      go_wp2
      go_ret
      refine ⟨⟨_, rfl, ?_, by omega⟩, hbw⟩
      have h1 : l.any oddB = false := by
        rw [List.any_eq_false]
        intro x hx
        obtain ⟨j, hj, rfl⟩ := List.getElem_of_mem hx
        rw [Hno.out j hj (by omega)]; simp
      rw [h1]; simp
theorem containsFunc_any (l : List UInt8) (w : World) :
    Calls Tryz.prog 210 #[str l, .func (.func 209) #[] #[]] w fun e w' => e = .returned (.bool (l.any oddB)) ∧ Below w.heap.size w w' := by
  have h1 : ∀ V, Calls Tryz.prog 229 #[str l, .func (.func 209) #[] #[]] V fun e w' => (∃ i, e = .returned (.int .i64 i) ∧ Found l i) ∧ Below V.heap.size V w' := by
    intro V
    go_enter Tryz.func229, Tryz.ntmps229
    go_wp2_with fail
    refine (indexFunc_any l _).mono ?_
    rintro e w1 ⟨⟨i, rfl, hf⟩, hb⟩
    have Hf := Lib.hid hf
    clear hf
    go_wp2_with fail
    go_ret
    exact ⟨⟨i, rfl, Hf.out⟩, hb⟩
  have H1 := Lib.hid h1
  clear h1
  go_enter Tryz.func210, Tryz.ntmps210
  go_wp2_with fail
  refine (H1.out _).mono ?_
  rintro e w1 ⟨⟨i, rfl, hf⟩, hb⟩
  have Hf := Lib.hid hf
  clear hf
  go_wp2_with fail
  go_ret
  refine ⟨?_, hb⟩
  have := Hf.out.1
  rw [Bool.eq_iff_iff.2 (show decide (0 ≤ i) = true ↔ l.any oddB = true by rw [decide_eq_true_iff]; exact this)]; rfl
end Go.Proofs.YtnfiapjdkjbdhaaGreat.Dirs
/- Layer 10 (dirs), continued: names, and which entries may be. -/
namespace Go.Proofs.YtnfiapjdkjbdhaaGreat.Dirs
open Go.RowKit Go.Lib
set_option linter.unusedVariables false
set_option linter.unusedSimpArgs false
set_option maxRecDepth 10000
theorem nameB_odd {l : List UInt8} (h0 : l ≠ []) (h1 : ¬ 27 < l.length) (h2 : l ≠ [46]) (h3 : l ≠ [46, 46]) : nameB l = !(l.any oddB) := by
  unfold nameB
  have : 0 < l.length := List.length_pos_iff.2 h0
  rw [decide_eq_true ⟨by omega, by omega, h2, h3⟩]
  rfl
theorem nameB_no {l : List UInt8} (h : l = [] ∨ 27 < l.length ∨ l = [46] ∨ l = [46, 46]) : nameB l = false := by
  unfold nameB
  rw [decide_eq_false]
  · rfl
  · rintro ⟨h1, h2, h3, h4⟩
    rcases h with h | h | h | h
    · rw [h] at h1; simp at h1
    · omega
    · exact h3 h
    · exact h4 h
theorem nameE_no {l : List UInt8} (h : nameB l = false) : nameE l = 2 := by unfold nameE; rw [h]; rfl
theorem nameE_yes {l : List UInt8} (h : nameB l = true) : nameE l = 0 := by unfold nameE; rw [h]; rfl
set_option maxHeartbeats 1000000 in
theorem name_any (l : List UInt8) (w : World) (hs : l.length ≤ maxLen) :
    Calls Tryz.prog 170 #[str l] w fun e w' => e = .returned (.int .i64 (nameE l)) ∧ Below w.heap.size w w' := by
  unfold maxLen at hs
  by_cases h0 : l = []
  · subst h0
    go_enter Tryz.func170, Tryz.ntmps170
    go_wp2
    go_ret
    exact ⟨rfl, Below.refl _ _⟩
  · by_cases h1 : 27 < l.length
    · have HE := Lib.hid (nameE_no (nameB_no (.inr (.inl h1))))
      go_enter Tryz.func170, Tryz.ntmps170
      go_wp2
      go_ret
      exact ⟨by rw [HE.out]; rfl, Below.refl _ _⟩
    · by_cases h2 : l = [46]
      · subst h2
        go_enter Tryz.func170, Tryz.ntmps170
        go_wp2
        go_ret
        exact ⟨rfl, Below.refl _ _⟩
      · by_cases h3 : l = [46, 46]
        · subst h3
          go_enter Tryz.func170, Tryz.ntmps170
          go_wp2
          go_ret
          exact ⟨rfl, Below.refl _ _⟩
        · have hB := nameB_odd h0 h1 h2 h3
          have hc := containsFunc_any l
          have d1 : ¬ (27 : Int) < (l.length : Int) := by omega
          have b1 : l.isEmpty = false := by simp [h0]
          have b2 : (l == [46]) = false := by simp [h2]
          have b3 : (l == [46, 46]) = false := by simp [h3]
          cases ha : l.any oddB with
          | true =>
            rw [ha] at hB
            have HE := Lib.hid (nameE_no hB)
            rw [ha] at hc
            have Hc := Lib.hid hc
            clear hB ha hc
            go_enter Tryz.func170, Tryz.ntmps170
            go_wp2_with fail
            refine (Hc.out _).mono ?_
            rintro e w1 ⟨rfl, hb⟩
            go_wp2_with fail
            go_ret
            exact ⟨by rw [HE.out]; rfl, hb⟩
          | false =>
            rw [ha] at hB
            have HE := Lib.hid (nameE_yes hB)
            rw [ha] at hc
            have Hc := Lib.hid hc
            clear hB ha hc
            go_enter Tryz.func170, Tryz.ntmps170
            go_wp2_with fail
            refine (Hc.out _).mono ?_
            rintro e w1 ⟨rfl, hb⟩
            go_wp2_with fail
            go_ret
            exact ⟨by rw [HE.out]; rfl, hb⟩
theorem ino_ne {i : Nat} (h : i ≠ 0) : ((i : Int) == 0) = false ∧ ((i : Int) != 0) = true := by
  have : ((i : Int) == 0) = false := by simp; omega
  exact ⟨this, by rw [bne, this]; rfl⟩
set_option maxHeartbeats 1000000 in
theorem may_any (x : En) (w : World) (hs : x.n.length ≤ maxLen) :
    Calls Tryz.prog 113 #[x.v] w fun e w' => e = .returned (.bool (mayB x)) ∧ Below w.heap.size w w' := by
  obtain ⟨n, i⟩ := x
  have hn := Lib.hid fun W => name_any n W hs
  by_cases h0 : i = 0
  · subst h0
    go_enter Tryz.func113, Tryz.ntmps113
    go_wp2
    go_ret
    exact ⟨rfl, (Below.refl _ _).alloc (Nat.le_refl _) _⟩
  · obtain ⟨q1, q2⟩ := ino_ne h0
    have HM := Lib.hid (show mayB ⟨n, i⟩ = nameB n by simp [mayB, h0])
    clear h0
    cases hb : nameB n with
    | true =>
      rw [nameE_yes hb] at hn
      have HE := Lib.hid (HM.out.trans hb)
      clear hb
      go_enter Tryz.func113, Tryz.ntmps113
      go_wp2_with fail
      refine (hn.out _).mono ?_
      rintro e w1 ⟨rfl, hb⟩
      go_wp2_with fail
      go_ret
      exact ⟨by rw [HE.out]; rfl, ((Below.refl _ _).alloc (Nat.le_refl _) _).trans (hb.mono (by simp))⟩
    | false =>
      rw [nameE_no hb] at hn
      have HE := Lib.hid (HM.out.trans hb)
      clear hb
      go_enter Tryz.func113, Tryz.ntmps113
      go_wp2_with fail
      refine (hn.out _).mono ?_
      rintro e w1 ⟨rfl, hb⟩
      go_wp2_with fail
      go_ret
      exact ⟨by rw [HE.out]; rfl, ((Below.refl _ _).alloc (Nat.le_refl _) _).trans (hb.mono (by simp))⟩
end Go.Proofs.YtnfiapjdkjbdhaaGreat.Dirs
/- Layer 10 (dirs): what each function answers; plain mathematics. -/
namespace Go.Proofs.YtnfiapjdkjbdhaaGreat.Dirs
set_option linter.unusedVariables false
set_option linter.unusedSimpArgs false
set_option maxRecDepth 10000
def look (l : List En) (n : List UInt8) : Option Nat := if n = [] then none else l.findIdx? fun x => x.n == n
theorem look_hit {l : List En} {n : List UInt8} {k : Nat} {x : En} (hn : n ≠ []) (hk : l[k]? = some x) (hx : x.n = n) (hno : ∀ j y, j < k → l[j]? = some y → y.n ≠ n) : look l n = some k := by
  unfold look
  rw [if_neg hn, List.findIdx?_eq_some_iff_getElem]
  obtain ⟨h1, h2⟩ := List.getElem?_eq_some_iff.1 hk
  refine ⟨h1, by rw [h2, hx]; simp, fun j hj => ?_⟩
  have := hno j l[j] hj (List.getElem?_eq_getElem _)
  simpa using this
theorem look_miss {l : List En} {n : List UInt8} (h : n = [] ∨ ∀ y ∈ l, y.n ≠ n) : look l n = none := by
  unfold look
  split
  · rfl
  · rename_i hn
    rw [List.findIdx?_eq_none_iff]
    intro y hy
    simpa using h.resolve_left hn y hy
theorem look_some {l : List En} {n : List UInt8} {k : Nat} (h : look l n = some k) : n ≠ [] ∧ ∃ x, l[k]? = some x ∧ x.n = n ∧ ∀ j y, j < k → l[j]? = some y → y.n ≠ n := by
  unfold look at h
  split at h
  · cases h
  · rename_i hn
    rw [List.findIdx?_eq_some_iff_getElem] at h
    obtain ⟨h1, h2, h3⟩ := h
    refine ⟨hn, l[k], List.getElem?_eq_getElem h1, by simpa using h2, fun j y hj hy => ?_⟩
    have := h3 j hj
    obtain ⟨h4, rfl⟩ := List.getElem?_eq_some_iff.1 hy
    simpa using this
theorem look_none {l : List En} {n : List UInt8} (h : look l n = none) : n = [] ∨ ∀ y ∈ l, y.n ≠ n := by
  unfold look at h
  split at h
  · rename_i hn; exact .inl hn
  · rw [List.findIdx?_eq_none_iff] at h
    exact .inr fun y hy => by simpa using h y hy
theorem look_lt {l : List En} {n : List UInt8} {k : Nat} (h : look l n = some k) : k < l.length := by
  obtain ⟨_, x, h1, _⟩ := look_some h
  exact (List.getElem?_eq_some_iff.1 h1).1
theorem look_pad {l : List En} {n : List UInt8} (m : Nat) : look (l ++ List.replicate m En.free) n = look l n := by
  cases h : look l n with
  | some k =>
    obtain ⟨hn, x, h1, h2, h3⟩ := look_some h
    have hk := (List.getElem?_eq_some_iff.1 h1).1
    refine look_hit hn (by rw [List.getElem?_append_left hk]; exact h1) h2 fun j y hj hy => h3 j y hj ?_
    rwa [List.getElem?_append_left (by omega)] at hy
  | none =>
    refine look_miss ?_
    rcases look_none h with e | e
    · exact .inl e
    · by_cases hn : n = []
      · exact .inl hn
      · refine .inr fun y hy => ?_
        rcases List.mem_append.1 hy with h4 | h4
        · exact e y h4
        · rw [(List.mem_replicate.1 h4).2]
          exact fun h5 => hn h5.symm
def gap (l : List En) : Option Nat := l.findIdx? fun x => x == En.free
theorem gap_hit {l : List En} {k : Nat} (hk : l[k]? = some En.free) (hno : ∀ j y, j < k → l[j]? = some y → y ≠ En.free) : gap l = some k := by
  unfold gap
  rw [List.findIdx?_eq_some_iff_getElem]
  obtain ⟨h1, h2⟩ := List.getElem?_eq_some_iff.1 hk
  refine ⟨h1, by rw [h2]; simp, fun j hj => ?_⟩
  have := hno j l[j] hj (List.getElem?_eq_getElem _)
  simpa using this
theorem gap_miss {l : List En} (h : ∀ y ∈ l, y ≠ En.free) : gap l = none := by
  unfold gap
  rw [List.findIdx?_eq_none_iff]
  intro y hy
  simpa using h y hy
theorem gap_some {l : List En} {k : Nat} (h : gap l = some k) : l[k]? = some En.free ∧ ∀ j y, j < k → l[j]? = some y → y ≠ En.free := by
  unfold gap at h
  rw [List.findIdx?_eq_some_iff_getElem] at h
  obtain ⟨h1, h2, h3⟩ := h
  have h2 : l[k] = En.free := by simpa using h2
  refine ⟨by rw [List.getElem?_eq_getElem h1, h2], fun j y hj hy => ?_⟩
  have := h3 j hj
  obtain ⟨h4, rfl⟩ := List.getElem?_eq_some_iff.1 hy
  simpa using this
theorem gap_none {l : List En} (h : gap l = none) : ∀ y ∈ l, y ≠ En.free := by
  unfold gap at h
  rw [List.findIdx?_eq_none_iff] at h
  intro y hy
  simpa using h y hy
theorem gap_lt {l : List En} {k : Nat} (h : gap l = some k) : k < l.length := (List.getElem?_eq_some_iff.1 (gap_some h).1).1
theorem gap_pad {l : List En} (hl : l.length ≤ 72) : gap (pad72 l) = match gap l with | some k => some k | none => if l.length < 72 then some l.length else none := by
  cases h : gap l with
  | some k =>
    obtain ⟨h1, h2⟩ := gap_some h
    have hk := gap_lt h
    refine gap_hit (by unfold pad72; rw [List.getElem?_append_left hk]; exact h1) fun j y hj hy => h2 j y hj ?_
    unfold pad72 at hy
    rwa [List.getElem?_append_left (by omega)] at hy
  | none =>
    have h1 := gap_none h
    simp only
    by_cases hlt : l.length < 72
    · rw [if_pos hlt]
      refine gap_hit ?_ fun j y hj hy => ?_
      · unfold pad72
        rw [List.getElem?_append_right (Nat.le_refl _), Nat.sub_self, List.getElem?_replicate, if_pos (by omega)]
      · unfold pad72 at hy
        rw [List.getElem?_append_left hj] at hy
        exact h1 y (List.mem_of_getElem? hy)
    · rw [if_neg hlt]
      refine gap_miss ?_
      have : 72 - l.length = 0 := by omega
      unfold pad72
      rw [this]
      simpa using h1
def chg (s : List UInt8) (k : Nat) (p : List UInt8) : List UInt8 := s.take (32 * k) ++ p ++ s.drop (32 * k + 32)
def fIno (l : List En) (n : List UInt8) : Nat := match look l n with | some k => (l.getD k En.free).i | none => 0
def fAt (l : List En) (n : List UInt8) : Nat := match look l n with | some k => k | none => 0
theorem fIno_some {l : List En} {n : List UInt8} {k : Nat} {x : En} (h : look l n = some k) (hx : l[k]? = some x) : fIno l n = x.i := by
  unfold fIno; rw [h]; simp only [List.getD_eq_getElem?_getD, hx]; rfl
theorem fAt_some {l : List En} {n : List UInt8} {k : Nat} (h : look l n = some k) : fAt l n = k := by unfold fAt; rw [h]
def addE (s : List UInt8) (x : En) : Nat :=
  if chk s ≠ 0 then chk s else if mayB x = false then 2 else if (look (ents s) x.n).isSome = true then 9 else if gap (ents s) = none ∧ 72 ≤ (ents s).length then 4 else 0
def addT (s : List UInt8) (x : En) : List UInt8 :=
  if addE s x ≠ 0 then [] else match gap (ents s) with | some k => chg s k (slotL x) | none => s ++ (slotL x ++ freeL)
def setE (s : List UInt8) (x : En) : Nat := if chk s ≠ 0 then chk s else if x.i = 0 then 2 else if look (ents s) x.n = none then 3 else 0
def setT (s : List UInt8) (x : En) : List UInt8 := if setE s x ≠ 0 then [] else chg s (fAt (ents s) x.n) (slotL x)
def delE (s n : List UInt8) : Nat := if chk s ≠ 0 then chk s else if look (ents s) n = none then 3 else 0
def delT (s n : List UInt8) : List UInt8 := if delE s n ≠ 0 then [] else chg s (fAt (ents s) n) freeL
def delI (s n : List UInt8) : Nat := if delE s n ≠ 0 then 0 else fIno (ents s) n
theorem add_bad {s : List UInt8} {x : En} (h : chk s ≠ 0) : addE s x = chk s ∧ addT s x = [] := by
  have h1 : addE s x = chk s := by unfold addE; rw [if_pos h]
  exact ⟨h1, by unfold addT; rw [if_pos (by rw [h1]; exact h)]⟩
theorem add_arg {s : List UInt8} {x : En} (h : chk s = 0) (hm : mayB x = false) : addE s x = 2 ∧ addT s x = [] := by
  have h1 : addE s x = 2 := by unfold addE; rw [if_neg (by simp [h]), if_pos hm]
  exact ⟨h1, by unfold addT; rw [if_pos (by rw [h1]; decide)]⟩
theorem add_have {s : List UInt8} {x : En} {k : Nat} (h : chk s = 0) (hm : mayB x = true) (hl : look (ents s) x.n = some k) : addE s x = 9 ∧ addT s x = [] := by
  have h1 : addE s x = 9 := by unfold addE; rw [if_neg (by simp [h]), if_neg (by simp [hm]), if_pos (by rw [hl]; rfl)]
  exact ⟨h1, by unfold addT; rw [if_pos (by rw [h1]; decide)]⟩
theorem add_full {s : List UInt8} {x : En} (h : chk s = 0) (hm : mayB x = true) (hl : look (ents s) x.n = none) (hg : gap (ents s) = none) (h72 : 72 ≤ (ents s).length) : addE s x = 4 ∧ addT s x = [] := by
  have h1 : addE s x = 4 := by unfold addE; rw [if_neg (by simp [h]), if_neg (by simp [hm]), if_neg (by rw [hl]; simp), if_pos ⟨hg, h72⟩]
  exact ⟨h1, by unfold addT; rw [if_pos (by rw [h1]; decide)]⟩
theorem add_more {s : List UInt8} {x : En} (h : chk s = 0) (hm : mayB x = true) (hl : look (ents s) x.n = none) (hg : gap (ents s) = none) (h72 : (ents s).length < 72) : addE s x = 0 ∧ addT s x = s ++ (slotL x ++ freeL) := by
  have h1 : addE s x = 0 := by unfold addE; rw [if_neg (by simp [h]), if_neg (by simp [hm]), if_neg (by rw [hl]; simp), if_neg (by rintro ⟨_, h2⟩; omega)]
  exact ⟨h1, by unfold addT; rw [if_neg (by rw [h1]; decide), hg]⟩
theorem add_gap {s : List UInt8} {x : En} {k : Nat} (h : chk s = 0) (hm : mayB x = true) (hl : look (ents s) x.n = none) (hg : gap (ents s) = some k) : addE s x = 0 ∧ addT s x = chg s k (slotL x) := by
  have h1 : addE s x = 0 := by unfold addE; rw [if_neg (by simp [h]), if_neg (by simp [hm]), if_neg (by rw [hl]; simp), if_neg (by rintro ⟨h2, _⟩; rw [hg] at h2; cases h2)]
  exact ⟨h1, by unfold addT; rw [if_neg (by rw [h1]; decide), hg]⟩
theorem set_none {s : List UInt8} {x : En} (h : chk s = 0) (hi : x.i ≠ 0) (hl : look (ents s) x.n = none) : setE s x = 3 ∧ setT s x = [] := by
  have h1 : setE s x = 3 := by unfold setE; rw [if_neg (by simp [h]), if_neg hi, if_pos hl]
  exact ⟨h1, by unfold setT; rw [if_pos (by rw [h1]; decide)]⟩
theorem del_bad {s n : List UInt8} (h : chk s ≠ 0) : delE s n = chk s ∧ delT s n = [] ∧ delI s n = 0 := by
  have h1 : delE s n = chk s := by unfold delE; rw [if_pos h]
  exact ⟨h1, by unfold delT; rw [if_pos (by rw [h1]; exact h)], by unfold delI; rw [if_pos (by rw [h1]; exact h)]⟩
theorem del_none {s n : List UInt8} (h : chk s = 0) (hl : look (ents s) n = none) : delE s n = 3 ∧ delT s n = [] ∧ delI s n = 0 := by
  have h1 : delE s n = 3 := by unfold delE; rw [if_neg (by simp [h]), if_pos hl]
  exact ⟨h1, by unfold delT; rw [if_pos (by rw [h1]; decide)], by unfold delI; rw [if_pos (by rw [h1]; decide)]⟩
theorem del_some {s n : List UInt8} {k : Nat} {x : En} (h : chk s = 0) (hl : look (ents s) n = some k) (hx : (ents s)[k]? = some x) : delE s n = 0 ∧ delT s n = chg s k freeL ∧ delI s n = x.i := by
  have h1 : delE s n = 0 := by unfold delE; rw [if_neg (by simp [h]), if_neg (by rw [hl]; simp)]
  exact ⟨h1, by unfold delT; rw [if_neg (by rw [h1]; decide), fAt_some hl], by unfold delI; rw [if_neg (by rw [h1]; decide), fIno_some hl hx]⟩
theorem ents_len {s : List UInt8} (h : chk s = 0) : s.length = 32 * (ents s).length ∧ s.length ≤ 2304 ∧ (ents s).length % 2 = 0 := by
  obtain ⟨h1, h2⟩ := chk_dir h
  have h3 := h1.len
  rw [← h2] at h3
  have := h1.le
  exact ⟨h3, by omega, h1.even⟩
end Go.Proofs.YtnfiapjdkjbdhaaGreat.Dirs
