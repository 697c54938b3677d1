/- Layer 6 (bits): how many are on. -/
import Derived.Test.YthdkbhoeonnkmaaBits2
import Derived.Test.YthdkbhoeonnkmaaBaseScope
namespace Go.Proofs.Ythdkbhoeonnkmaa
open Go.RowKit Go.Shelf
set_option linter.unusedVariables false
set_option linter.unusedSimpArgs false
set_option maxRecDepth 10000
attribute [local go_sem] Oper.semAt_some
/-- How many of these are on. -/
def onOf (l : List UInt8) (xs : List (BitIx l)) : Nat := (xs.map fun x => if bitL l x.val then 1 else 0).sum
theorem onOf_snoc (l : List UInt8) (xs : List (BitIx l)) (x : BitIx l) : onOf l (xs ++ [x]) = onOf l xs + if bitL l x.val then 1 else 0 := by
  unfold onOf
  rw [List.map_append, List.sum_append]; simp
theorem onOf_row (l : List UInt8) (k : Nat) (xs : List (BitIx l)) (h : BitRow l 0 k xs) : onOf l xs = countL l k := by
  induction k generalizing xs with
  | zero =>
    have := h.length
    have : xs = [] := List.length_eq_zero_iff.1 this
    subst this; rfl
  | succ k ih =>
    have hl := h.length
    obtain ⟨ys, x, rfl⟩ : ∃ ys x, xs = ys ++ [x] := by
      rcases List.eq_nil_or_concat xs with e | ⟨ys, x, e⟩
      · subst e; simp at hl
      · exact ⟨ys, x, by simpa using e⟩
    obtain ⟨j, hj, hr, hx⟩ := h.unsnoc
    obtain rfl : k = j := by omega
    rw [onOf_snoc, ih _ hr, countL, hx, Nat.zero_add]
theorem onOf_le (l : List UInt8) (xs : List (BitIx l)) : onOf l xs ≤ xs.length := by
  unfold onOf
  induction xs with
  | nil => simp
  | cons x xs ih => rw [List.map_cons, List.sum_cons, List.length_cons]; split <;> omega
theorem BitRow.mem {l : List UInt8} {a k : Nat} {xs : List (BitIx l)} (h : BitRow l a k xs) (x : BitIx l) (h1 : a ≤ x.val) (h2 : x.val < a + k) : x ∈ xs := by
  have hm : x.val ∈ xs.map Fin.val := by rw [h, List.mem_range'_1]; exact ⟨h1, h2⟩
  obtain ⟨y, hy, e⟩ := List.mem_map.1 hm
  rwa [← Fin.ext e]
theorem cell_alloc_l {W : World} {a : Addr} {v : Value} (o : Obj) (h : W.cell? a = some v) : (W.alloc o).cell? a = some v := cell_kept h (World.grownBy_alloc W o none) (fun r e => by cases e)
theorem frozen_alloc_l {W : World} {a : Addr} {v : Value} (o : Obj) (h : W.cell? a = some v) (hf : W.frozen? a = false) : (W.alloc o).frozen? a = false := (frozen_kept h (World.grownBy_alloc W o none) (fun r e => by cases e)).trans hf
/-- Four boxes in a row. -/
theorem boxes4 (w : World) (a b c d : Value) (s t u v : TypeId) :
    ((((w.alloc (.cells #[a] s)).alloc (.cells #[b] t)).alloc (.cells #[c] u)).alloc (.cells #[d] v)).cell? ⟨w.heap.size, 0, none⟩ = some a ∧
    ((((w.alloc (.cells #[a] s)).alloc (.cells #[b] t)).alloc (.cells #[c] u)).alloc (.cells #[d] v)).cell? ⟨w.heap.size + 1, 0, none⟩ = some b ∧
    ((((w.alloc (.cells #[a] s)).alloc (.cells #[b] t)).alloc (.cells #[c] u)).alloc (.cells #[d] v)).cell? ⟨w.heap.size + 1 + 1, 0, none⟩ = some c ∧
    ((((w.alloc (.cells #[a] s)).alloc (.cells #[b] t)).alloc (.cells #[c] u)).alloc (.cells #[d] v)).cell? ⟨w.heap.size + 1 + 1 + 1, 0, none⟩ = some d ∧
    ((((w.alloc (.cells #[a] s)).alloc (.cells #[b] t)).alloc (.cells #[c] u)).alloc (.cells #[d] v)).frozen? ⟨w.heap.size + 1, 0, none⟩ = false := by
  have h1 := cell_new_l w a s
  have h2 := cell_new_l (w.alloc (.cells #[a] s)) b t
  have f2 := frozen_new_l (w.alloc (.cells #[a] s)) b t
  have h3 := cell_new_l ((w.alloc (.cells #[a] s)).alloc (.cells #[b] t)) c u
  have h4 := cell_new_l (((w.alloc (.cells #[a] s)).alloc (.cells #[b] t)).alloc (.cells #[c] u)) d v
  simp only [World.size_alloc] at h2 h3 h4 f2
  exact ⟨cell_alloc_l _ (cell_alloc_l _ (cell_alloc_l _ h1)), cell_alloc_l _ (cell_alloc_l _ h2), cell_alloc_l _ h3, h4, frozen_alloc_l _ (cell_alloc_l _ h2) (frozen_alloc_l _ h2 f2)⟩
set_option maxRecDepth 100000 in
set_option maxHeartbeats 2000000 in
theorem count_any (l : List UInt8) (n : Int) (w : World) (hl : l.length ≤ 1048576) :
    Calls Try.prog 17 #[str l, .int .i64 n] w fun e w' => e = .returned (.int .i64 (countL l (min n.toNat (8 * l.length)) : Nat)) ∧ Below w.heap.size w w' := by
  refine (callsIn_wide (n := 3)).1 ?_
  refine callsIn_of_wp_marks Try.func17 rfl trivial ?_ rfl
  simp only [Try.ntmps17, List.size_toArray, List.length_cons, List.length_nil, Nat.reduceAdd, Nat.reduceSub, Array.replicate_succ, Array.replicate_zero, List.push_toArray, List.append_toArray, List.nil_append, List.cons_append]
  gi_wp2_with fail
  refine scope_in ?_
  gi_wp2_with fail
  refine wpIn_label ?_
  gi_wp2_with fail
  refine ⟨trivial, (callsIn_wide.2 (bitsFrom_any l 0 _)).mono ?_⟩
  rintro e w2 ⟨rfl, rfl⟩
  gi_wp2_with fail
  obtain ⟨W0, hW0⟩ : ∃ W0, ((((w.alloc (.cells #[Value.int .i64 n] 3)).alloc (.cells #[Value.int .i64 0] 3)).alloc (.cells #[str l] 9)).alloc (.cells #[Value.int .i64 0] 3)) = W0 := ⟨_, rfl⟩
  have hsz0 : W0.heap.size = w.heap.size + 1 + 1 + 1 + 1 := by rw [← hW0]; simp
  have hB0 : Below w.heap.size w W0 := by
    rw [← hW0]
    exact ((((Below.refl _ _).alloc (Nat.le_refl _) _).alloc (by simp) _).alloc (by simp; omega) _).alloc (by simp; omega) _
  obtain ⟨hcn, hcc, hcs, hca, hcf⟩ := boxes4 w (Value.int .i64 n) (Value.int .i64 0) (str l) (Value.int .i64 0) 3 3 9 3
  rw [hW0] at hcn hcc hcs hca hcf
  rw [hW0]
  clear hW0
  have Hsz0 := Lib.hid hsz0
  refine wpIn_rangeFunc_ownF rfl (by decide) (gf := 27) (lb := #[.pointer (some ⟨w.heap.size + 1 + 1 + 1, 0, none⟩), .pointer (some ⟨w.heap.size + 1 + 1, 0, none⟩)]) rfl trivial (enters_of Try.func27 (by kernel_rfl) rfl)
    (encs := fun (x : BitIx l) => #[.int .i64 (x.val : Int), .bool (bitL l x.val)]) (S := fun ys => BitRow l 0 (8 * l.length - 0) ys) (Sp := fun pre => ∃ k, 0 + k ≤ 8 * l.length ∧ BitRow l 0 k pre) (N := 8 * l.length) (w0 := W0) (Kp := KeepC (w.heap.size + 1 + 1))
    (fun y J Jx W hW hJ hJx hY h0 => bits_in l hl 0 (Nat.zero_le _) y (w.heap.size + 1 + 1 + 1) (w.heap.size + 1 + 1) J Jx hY W ((hW.cell (p := ⟨w.heap.size + 1 + 1 + 1, 0, none⟩) (by rw [Hsz0.out]; simp)).trans hca) ((hW.cell (p := ⟨w.heap.size + 1 + 1, 0, none⟩) (by rw [Hsz0.out]; simp)).trans hcs) h0)
    (fun h k => h.trans k) (fun W q o o' _ hq ho _ => KeepC.putObj o' hq ho) (Below.refl _ _) (fun _ => rfl)
    (fun pre W => (W.cell? ⟨w.heap.size, 0, none⟩ = some (.int .i64 n) ∧ W.cell? ⟨w.heap.size + 1, 0, none⟩ = some (.int .i64 (onOf l pre : Nat)) ∧ W.frozen? ⟨w.heap.size + 1, 0, none⟩ = false ∧ ∀ x ∈ pre, (x.val : Int) < n) ∧ Below w.heap.size w W)
    (fun c pre W => (c = .exit 0 ∧ ∃ ys x, pre = ys ++ [x] ∧ n ≤ (x.val : Int) ∧ (∀ x ∈ ys, (x.val : Int) < n) ∧ W.cell? ⟨w.heap.size + 1, 0, none⟩ = some (.int .i64 (onOf l ys : Nat))) ∧ Below w.heap.size w W)
    (OwnFrom.and (Own.from (fun s A B row hs hg hr => ⟨cell_kept hs.1 hg hr, cell_kept hs.2.1 hg hr, (frozen_kept hs.2.1 hg hr).trans hs.2.2.1, hs.2.2.2⟩) _) (ownFrom_below (Nat.le_refl _) (by rw [Hsz0.out]; omega)))
    (fun c => OwnFrom.and (Own.from (fun s A B row hs hg hr => by obtain ⟨h1, ys, x, h2, h3, h4, h5⟩ := hs; exact ⟨h1, ys, x, h2, h3, h4, cell_kept h5 hg hr⟩) _) (ownFrom_below (Nat.le_refl _) (by rw [Hsz0.out]; omega)))
    ⟨⟨hcn, hcc, hcf, by simp⟩, hB0⟩
    (fun x => { tmps := #[str l, Value.int .i64 n, undef, .pointer (some ⟨w.heap.size, 0, none⟩), Value.int .i64 0, .pointer (some ⟨w.heap.size + 1, 0, none⟩), .int .i64 (x.val : Int), .bool (bitL l x.val), str l, .func (.func 27) #[] #[.pointer (some ⟨w.heap.size + 1 + 1 + 1, 0, none⟩), .pointer (some ⟨w.heap.size + 1 + 1, 0, none⟩)], .int .i64 (x.val : Int), .bool (bitL l x.val), undef, undef, undef, undef, undef, undef, undef, undef, undef], defers := [] }) ?assign ?body ?done ?stop
  case assign =>
    intro l x W K hK
    gi_wp2
    exact hK
  case body =>
    rintro y pre x W ⟨⟨hn, hc, hf, ht⟩, hB⟩ hlen
    have hle := onOf_le l pre
    have hsn := Lib.hid (onOf_snoc l pre x)
    have Ht := Lib.hid ht
    clear ht hcn hcc hcs hca hcf
    gi_wp2_with fail
    · rename_i h1
      exact ⟨KeepsOthers.refl _, ⟨rfl, pre, x, rfl, h1, Ht.out, hc⟩, hB⟩
    · rename_i h1 h2
      refine ⟨KeepsOthers.setCell _ _ _, KeepC.setCell _ _ _ (by simp), ⟨?_, ?_, ?_, ?_⟩, hB.setCell (p := ⟨w.heap.size + 1, 0, none⟩) (by simp) _⟩
      · rw [World.cell?_setCell_other _ _ _ _ (by simp)]; exact hn
      · rw [hsn.out, h2]
        exact World.cell?_setCell_same' _ _ _ (by rw [hc]; rfl)
      · rw [World.frozen?_setCell]; exact hf
      · intro z hz
        rcases List.mem_append.1 hz with h | h
        · exact Ht.out z h
        · rw [List.mem_singleton.1 h]; exact h1
    · rename_i h1 h2
      refine ⟨KeepsOthers.refl _, KeepC.refl _ _, ⟨hn, ?_, hf, ?_⟩, hB⟩
      · rw [hsn.out, h2]; exact hc
      · intro z hz
        rcases List.mem_append.1 hz with h | h
        · exact Ht.out z h
        · rw [List.mem_singleton.1 h]; exact h1
  case done =>
    rintro D ys W hD hS ⟨⟨hn, hc, hf, ht⟩, hB⟩ hK
    gi_wp2_with fail
    rw [Exit.noGoto_ret]
    refine ⟨by simp, .inl ⟨_, _, rfl, run_takeDeferred hK, ?_⟩⟩
    refine ⟨_, results_tmp rfl _ _ _, ?_, hB.trans (belowK_b (w := w) (Nat.le_refl _) W D _ _ (by rw [Hsz0.out] at hD; omega) hK rfl rfl)⟩
    have hmin : min n.toNat (8 * l.length) = 8 * l.length - 0 := by
      rcases Nat.eq_zero_or_pos (8 * l.length) with h0 | h0
      · omega
      · have := ht ⟨8 * l.length - 1, by omega⟩ (hS.mem _ (by simp) (by simp; omega))
        simp only at this
        omega
    rw [hmin, ← onOf_row l _ ys hS]; rfl
  case stop =>
    rintro D c pre W hD ⟨k, hk, hrow⟩ ⟨⟨rfl, ys, x, rfl, hx, hys, hc⟩, hB⟩ hK
    gi_wp2_with fail
    rw [Exit.noGoto_ret]
    refine ⟨by simp, .inl ⟨_, _, rfl, run_takeDeferred hK, ?_⟩⟩
    refine ⟨_, results_tmp rfl _ _ _, ?_, hB.trans (belowK_b (w := w) (Nat.le_refl _) W D _ _ (by rw [Hsz0.out] at hD; omega) hK rfl rfl)⟩
    obtain ⟨j, rfl, hr, hxj⟩ := hrow.unsnoc
    have hlx := x.isLt
    have hmin : min n.toNat (8 * l.length) = j := by
      rcases Nat.eq_zero_or_pos j with h0 | h0
      · omega
      · have := hys ⟨j - 1, by omega⟩ (hr.mem _ (by simp) (by simp; omega))
        simp only at this
        omega
    rw [hmin, ← onOf_row l _ ys hr]; rfl
end Go.Proofs.Ythdkbhoeonnkmaa
