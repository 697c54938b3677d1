/- Layer 6 (bits): the least one. -/
import Derived.Test.YthdkbhoeonnkmaaBits3
namespace Go.Proofs.Ythdkbhoeonnkmaa
open Go.RowKit Go.Shelf
set_option linter.unusedVariables false
set_option linter.unusedSimpArgs false
set_option maxRecDepth 10000
attribute [local go_sem] Oper.semAt_some
/-- Six boxes in a row. -/
theorem boxes6 (w : World) (a b c d e f : Value) (s t u v x y : TypeId) :
    let W := ((((((w.alloc (.cells #[a] s)).alloc (.cells #[b] t)).alloc (.cells #[c] u)).alloc (.cells #[d] v)).alloc (.cells #[e] x)).alloc (.cells #[f] y))
    W.cell? ⟨w.heap.size, 0, none⟩ = some a ∧ W.cell? ⟨w.heap.size + 1, 0, none⟩ = some b ∧ W.cell? ⟨w.heap.size + 1 + 1, 0, none⟩ = some c ∧ W.cell? ⟨w.heap.size + 1 + 1 + 1, 0, none⟩ = some d ∧
    W.cell? ⟨w.heap.size + 1 + 1 + 1 + 1, 0, none⟩ = some e ∧ W.cell? ⟨w.heap.size + 1 + 1 + 1 + 1 + 1, 0, none⟩ = some f ∧
    W.frozen? ⟨w.heap.size + 1 + 1, 0, none⟩ = false ∧ W.frozen? ⟨w.heap.size + 1 + 1 + 1, 0, none⟩ = false := by
  obtain ⟨h1, h2, h3, h4, _⟩ := boxes4 w a b c d s t u v
  intro W
  have f4 := frozen_new_l (((w.alloc (.cells #[a] s)).alloc (.cells #[b] t)).alloc (.cells #[c] u)) d v
  have h3' := cell_new_l ((w.alloc (.cells #[a] s)).alloc (.cells #[b] t)) c u
  have f3 := frozen_new_l ((w.alloc (.cells #[a] s)).alloc (.cells #[b] t)) c u
  have h5 := cell_new_l ((((w.alloc (.cells #[a] s)).alloc (.cells #[b] t)).alloc (.cells #[c] u)).alloc (.cells #[d] v)) e x
  have h6 := cell_new_l (((((w.alloc (.cells #[a] s)).alloc (.cells #[b] t)).alloc (.cells #[c] u)).alloc (.cells #[d] v)).alloc (.cells #[e] x)) f y
  simp only [World.size_alloc] at h5 h6 f4 f3 h3'
  exact ⟨cell_alloc_l _ (cell_alloc_l _ h1), cell_alloc_l _ (cell_alloc_l _ h2), cell_alloc_l _ (cell_alloc_l _ h3), cell_alloc_l _ (cell_alloc_l _ h4), cell_alloc_l _ h5, h6,
    frozen_alloc_l _ (cell_alloc_l _ h3) (frozen_alloc_l _ h3 (frozen_alloc_l _ h3' f3)), frozen_alloc_l _ (cell_alloc_l _ h4) (frozen_alloc_l _ h4 f4)⟩
/-- Which bit, if there is one. -/
def leastV : Option Nat → Value
  | some k => .tuple #[.int .i64 k, .bool true]
  | none => .tuple #[.int .i64 0, .bool false]
/-- None of these is as on says, and all are below n. -/
def NoneOf (l : List UInt8) (n : Int) (on : Bool) (xs : List (BitIx l)) : Prop := ∀ x ∈ xs, (x.val : Int) < n ∧ bitL l x.val = !on
theorem NoneOf.snoc {l : List UInt8} {n : Int} {on : Bool} {xs : List (BitIx l)} (h : NoneOf l n on xs) (x : BitIx l) (h1 : (x.val : Int) < n) (h2 : bitL l x.val = !on) : NoneOf l n on (xs ++ [x]) := by
  intro z hz
  rcases List.mem_append.1 hz with e | e
  · exact h z e
  · rw [List.mem_singleton.1 e]; exact ⟨h1, h2⟩
/-- The two results' cells, stored into, behind the loop. -/
theorem stored {w W : World} {D : Nat} {u v : Value} (hB : Below w.heap.size w W) (hk : W.cell? ⟨w.heap.size + 1 + 1, 0, none⟩ = some u) (hb : W.cell? ⟨w.heap.size + 1 + 1 + 1, 0, none⟩ = some v) (hK : W.heap[D]? = some (.deferred (some []))) (x y : Value) :
    let W' := (W.setCell ⟨w.heap.size + 1 + 1, 0, none⟩ x).setCell ⟨w.heap.size + 1 + 1 + 1, 0, none⟩ y
    W'.heap[D]? = some (.deferred (some [])) ∧ Below w.heap.size w W' ∧ (W'.putObj D (.deferred none)).cell? ⟨w.heap.size + 1 + 1, 0, none⟩ = some x ∧ (W'.putObj D (.deferred none)).cell? ⟨w.heap.size + 1 + 1 + 1, 0, none⟩ = some y := by
  intro W'
  have hK' : W'.heap[D]? = some (.deferred (some [])) := ((KeepsOthers.setCell W ⟨w.heap.size + 1 + 1, 0, none⟩ x).trans (KeepsOthers.setCell _ ⟨w.heap.size + 1 + 1 + 1, 0, none⟩ y)).same D _ hK rfl
  have r1 : W'.cell? ⟨w.heap.size + 1 + 1, 0, none⟩ = some x := by
    rw [World.cell?_setCell_other _ _ _ _ (by simp)]
    exact World.cell?_setCell_same' _ _ _ (by rw [hk]; rfl)
  have r2 : W'.cell? ⟨w.heap.size + 1 + 1 + 1, 0, none⟩ = some y := World.cell?_setCell_same' _ _ _ (by rw [World.cell?_setCell_other _ _ _ _ (by simp), hb]; rfl)
  exact ⟨hK', (hB.setCell (p := ⟨w.heap.size + 1 + 1, 0, none⟩) (by simp; omega) _).setCell (p := ⟨w.heap.size + 1 + 1 + 1, 0, none⟩) (by simp; omega) _,
    cell_kept r1 (grownBy_putObj' _ D (.deferred none)) (fun r e => by cases e; exact ⟨_, hK', rfl⟩), cell_kept r2 (grownBy_putObj' _ D (.deferred none)) (fun r e => by cases e; exact ⟨_, hK', rfl⟩)⟩
set_option maxRecDepth 100000 in
set_option maxHeartbeats 2000000 in
theorem least_any (l : List UInt8) (n : Int) (on : Bool) (w : World) (hl : l.length ≤ 1048576) :
    Calls Try.prog 13 #[str l, .int .i64 n, .bool on] w fun e w' => e = .returned (leastV (leastL l on (min n.toNat (8 * l.length)))) ∧ Below w.heap.size w w' := by
  refine (callsIn_wide (n := 3)).1 ?_
  refine callsIn_of_wp_marks Try.func13 rfl trivial ?_ rfl
  simp only [Try.ntmps13, List.size_toArray, List.length_cons, List.length_nil, Nat.reduceAdd, Nat.reduceSub, Array.replicate_succ, Array.replicate_zero, List.push_toArray, List.append_toArray, List.nil_append, List.cons_append]
  gi_wp2_with fail
  refine scope_in ?_
  gi_wp2_with fail
  refine wpIn_label ?_
  gi_wp2_with fail
  refine ⟨trivial, (callsIn_wide.2 (bitsFrom_any l 0 _)).mono ?_⟩
  rintro e w2 ⟨rfl, rfl⟩
  gi_wp2_with fail
  obtain ⟨W0, hW0⟩ : ∃ W0, (((((((w.alloc (.cells #[Value.int .i64 n] 3)).alloc (.cells #[Value.bool on] 4)).alloc (.cells #[Value.int .i64 0] 3)).alloc (.cells #[Value.bool false] 4)).alloc (.cells #[str l] 9)).alloc (.cells #[Value.int .i64 0] 3))) = W0 := ⟨_, rfl⟩
  have hsz0 : W0.heap.size = w.heap.size + 1 + 1 + 1 + 1 + 1 + 1 := by rw [← hW0]; simp
  have hB0 : Below w.heap.size w W0 := by
    rw [← hW0]
    exact ((((((Below.refl _ _).alloc (Nat.le_refl _) _).alloc (by simp) _).alloc (by simp; omega) _).alloc (by simp; omega) _).alloc (by simp; omega) _).alloc (by simp; omega) _
  obtain ⟨hcn, hco, hck, hcb, hcs, hca, hfk, hfb⟩ := boxes6 w (Value.int .i64 n) (.bool on) (Value.int .i64 0) (.bool false) (str l) (Value.int .i64 0) 3 4 3 4 9 3
  rw [hW0] at hcn hco hck hcb hcs hca hfk hfb
  rw [hW0]
  clear hW0
  have Hsz0 := Lib.hid hsz0
  refine wpIn_rangeFunc_ownF rfl (by decide) (gf := 27) (lb := #[.pointer (some ⟨w.heap.size + 1 + 1 + 1 + 1 + 1, 0, none⟩), .pointer (some ⟨w.heap.size + 1 + 1 + 1 + 1, 0, none⟩)]) rfl trivial (enters_of Try.func27 (by kernel_rfl) rfl)
    (encs := fun (x : BitIx l) => #[.int .i64 (x.val : Int), .bool (bitL l x.val)]) (S := fun ys => BitRow l 0 (8 * l.length - 0) ys) (Sp := fun pre => ∃ k, 0 + k ≤ 8 * l.length ∧ BitRow l 0 k pre) (N := 8 * l.length) (w0 := W0) (Kp := KeepC (w.heap.size + 1 + 1 + 1 + 1))
    (fun y J Jx W hW hJ hJx hY h0 => bits_in l hl 0 (Nat.zero_le _) y (w.heap.size + 1 + 1 + 1 + 1 + 1) (w.heap.size + 1 + 1 + 1 + 1) J Jx hY W ((hW.cell (p := ⟨w.heap.size + 1 + 1 + 1 + 1 + 1, 0, none⟩) (by rw [Hsz0.out]; simp)).trans hca) ((hW.cell (p := ⟨w.heap.size + 1 + 1 + 1 + 1, 0, none⟩) (by rw [Hsz0.out]; simp)).trans hcs) h0)
    (fun h k => h.trans k) (fun W q o o' _ hq ho _ => KeepC.putObj o' hq ho) (Below.refl _ _) (fun _ => rfl)
    (fun pre W => ((W.cell? ⟨w.heap.size, 0, none⟩ = some (.int .i64 n) ∧ W.cell? ⟨w.heap.size + 1, 0, none⟩ = some (.bool on)) ∧ (W.cell? ⟨w.heap.size + 1 + 1, 0, none⟩ = some (.int .i64 0) ∧ W.cell? ⟨w.heap.size + 1 + 1 + 1, 0, none⟩ = some (.bool false)) ∧ (W.frozen? ⟨w.heap.size + 1 + 1, 0, none⟩ = false ∧ W.frozen? ⟨w.heap.size + 1 + 1 + 1, 0, none⟩ = false) ∧ NoneOf l n on pre) ∧ Below w.heap.size w W)
    (fun c pre W => (∃ ys x, pre = ys ++ [x] ∧ NoneOf l n on ys ∧
      ((c = .exit 0 ∧ n ≤ (x.val : Int) ∧ (W.cell? ⟨w.heap.size + 1 + 1, 0, none⟩ = some (.int .i64 0) ∧ W.cell? ⟨w.heap.size + 1 + 1 + 1, 0, none⟩ = some (.bool false)) ∧ (W.frozen? ⟨w.heap.size + 1 + 1, 0, none⟩ = false ∧ W.frozen? ⟨w.heap.size + 1 + 1 + 1, 0, none⟩ = false)) ∨
       (c = .ret ∧ (x.val : Int) < n ∧ bitL l x.val = on ∧ W.cell? ⟨w.heap.size + 1 + 1, 0, none⟩ = some (.int .i64 x.val) ∧ W.cell? ⟨w.heap.size + 1 + 1 + 1, 0, none⟩ = some (.bool true)))) ∧ Below w.heap.size w W)
    (OwnFrom.and (Own.from (fun s A B row hs hg hr => by
      obtain ⟨⟨a1, a2⟩, ⟨b1, b2⟩, ⟨c1, c2⟩, d⟩ := hs
      exact ⟨⟨cell_kept a1 hg hr, cell_kept a2 hg hr⟩, ⟨cell_kept b1 hg hr, cell_kept b2 hg hr⟩, ⟨(frozen_kept b1 hg hr).trans c1, (frozen_kept b2 hg hr).trans c2⟩, d⟩) _) (ownFrom_below (Nat.le_refl _) (by rw [Hsz0.out]; omega)))
    (fun c => OwnFrom.and (Own.from (fun s A B row hs hg hr => by
      obtain ⟨ys, x, h1, h2, (⟨h3, h4, ⟨b1, b2⟩, c1, c2⟩ | ⟨h3, h4, h5, b1, b2⟩)⟩ := hs
      · exact ⟨ys, x, h1, h2, .inl ⟨h3, h4, ⟨cell_kept b1 hg hr, cell_kept b2 hg hr⟩, (frozen_kept b1 hg hr).trans c1, (frozen_kept b2 hg hr).trans c2⟩⟩
      · exact ⟨ys, x, h1, h2, .inr ⟨h3, h4, h5, cell_kept b1 hg hr, cell_kept b2 hg hr⟩⟩) _) (ownFrom_below (Nat.le_refl _) (by rw [Hsz0.out]; omega)))
    ⟨⟨⟨hcn, hco⟩, ⟨hck, hcb⟩, ⟨hfk, hfb⟩, by simp [NoneOf]⟩, hB0⟩
    (fun x => { tmps := #[str l, Value.int .i64 n, Value.bool on, undef, .pointer (some ⟨w.heap.size, 0, none⟩), .pointer (some ⟨w.heap.size + 1, 0, none⟩), .pointer (some ⟨w.heap.size + 1 + 1, 0, none⟩), .pointer (some ⟨w.heap.size + 1 + 1 + 1, 0, none⟩), .int .i64 (x.val : Int), .bool (bitL l x.val), str l, .func (.func 27) #[] #[.pointer (some ⟨w.heap.size + 1 + 1 + 1 + 1 + 1, 0, none⟩), .pointer (some ⟨w.heap.size + 1 + 1 + 1 + 1, 0, none⟩)], .int .i64 (x.val : Int), .bool (bitL l x.val), undef, undef, undef, undef, undef, undef, undef, undef, undef], defers := [] }) ?assign ?body ?done ?stop
  case assign =>
    intro l x W K hK
    gi_wp2
    exact hK
  case body =>
    rintro y pre x W ⟨⟨⟨hn, ho⟩, ⟨hk, hb⟩, ⟨fk, fb⟩, ht⟩, hB⟩ hlen
    have Ht := Lib.hid ht
    clear ht hcn hco hck hcb hcs hca hfk hfb
    gi_wp2_with fail
    · rename_i h1
      exact ⟨KeepsOthers.refl _, ⟨pre, x, rfl, Ht.out, .inl ⟨rfl, h1, ⟨hk, hb⟩, fk, fb⟩⟩, hB⟩
    · rename_i h1 h2
      refine ⟨(KeepsOthers.setCell _ _ _).trans (KeepsOthers.setCell _ _ _), ⟨pre, x, rfl, Ht.out, .inr ⟨rfl, h1, by simpa using h2, ?_, ?_⟩⟩, (hB.setCell (p := ⟨w.heap.size + 1 + 1, 0, none⟩) (by simp; omega) _).setCell (p := ⟨w.heap.size + 1 + 1 + 1, 0, none⟩) (by simp; omega) _⟩
      · rw [World.cell?_setCell_other _ _ _ _ (by simp)]
        exact World.cell?_setCell_same' _ _ _ (by rw [hk]; rfl)
      · exact World.cell?_setCell_same' _ _ _ (by rw [World.cell?_setCell_other _ _ _ _ (by simp), hb]; rfl)
    · rename_i h1 h2
      refine ⟨KeepsOthers.refl _, KeepC.refl _ _, ⟨⟨hn, ho⟩, ⟨hk, hb⟩, ⟨fk, fb⟩, Ht.out.snoc x h1 ?_⟩, hB⟩
      revert h2
      cases on <;> cases bitL l x.val <;> simp
  case done =>
    rintro D ys W hD hS ⟨⟨⟨hn, ho⟩, ⟨hk, hb⟩, ⟨fk, fb⟩, ht⟩, hB⟩ hK
    have Ht := Lib.hid ht
    clear ht hcn hco hck hcb hcs hca hfk hfb
    gi_wp2_with fail
    rw [Exit.noGoto_ret]
    obtain ⟨hK', hb', r1, r2⟩ := stored hB hk hb hK (.int .i64 0) (.bool false)
    refine ⟨by simp, .inl ⟨_, _, rfl, run_takeDeferred hK', ?_⟩⟩
    refine ⟨.tuple #[.int .i64 0, .bool false], by simp [results, Try.f13, go_sem, r1, r2], ?_, hb'.trans (belowK_b (w := w) (Nat.le_refl _) _ D _ _ (by rw [Hsz0.out] at hD; omega) hK' rfl rfl)⟩
    have hmin : leastL l on (min n.toNat (8 * l.length)) = none := by
      rw [leastL_none]
      intro j hj
      exact (Ht.out ⟨j, by omega⟩ (hS.mem _ (by simp) (by simp; omega))).2
    rw [hmin]; rfl
  case stop =>
    rintro D c pre W hD ⟨k, hk, hrow⟩ ⟨⟨ys, x, rfl, ht, (⟨rfl, hx, ⟨hk, hb⟩, fk, fb⟩ | ⟨rfl, hx, hbit, hk, hb⟩)⟩, hB⟩ hK
    · have Ht := Lib.hid ht
      clear ht hcn hco hck hcb hcs hca hfk hfb
      gi_wp2_with fail
      rw [Exit.noGoto_ret]
      obtain ⟨hK', hb', r1, r2⟩ := stored hB hk hb hK (.int .i64 0) (.bool false)
      refine ⟨by simp, .inl ⟨_, _, rfl, run_takeDeferred hK', ?_⟩⟩
      refine ⟨.tuple #[.int .i64 0, .bool false], by simp [results, Try.f13, go_sem, r1, r2], ?_, hb'.trans (belowK_b (w := w) (Nat.le_refl _) _ D _ _ (by rw [Hsz0.out] at hD; omega) hK' rfl rfl)⟩
      obtain ⟨j, rfl, hr, hxj⟩ := hrow.unsnoc
      have hlx := x.isLt
      have hmin : leastL l on (min n.toNat (8 * l.length)) = none := by
        rw [leastL_none]
        intro i hi
        exact (Ht.out ⟨i, by omega⟩ (hr.mem _ (by simp) (by simp; omega))).2
      rw [hmin]; rfl
    · have Ht := Lib.hid ht
      clear ht hcn hco hck hcb hcs hca hfk hfb
      gi_wp2_with fail
      rw [Exit.noGoto_ret]
      have r1 := cell_kept hk (grownBy_putObj' _ D (.deferred none)) (fun r e => by cases e; exact ⟨_, hK, rfl⟩)
      have r2 := cell_kept hb (grownBy_putObj' _ D (.deferred none)) (fun r e => by cases e; exact ⟨_, hK, rfl⟩)
      refine ⟨by simp, .inl ⟨_, _, rfl, run_takeDeferred hK, ?_⟩⟩
      refine ⟨.tuple #[.int .i64 x.val, .bool true], by simp [results, Try.f13, go_sem, r1, r2], ?_, hB.trans (belowK_b (w := w) (Nat.le_refl _) _ D _ _ (by rw [Hsz0.out] at hD; omega) hK rfl rfl)⟩
      obtain ⟨j, rfl, hr, hxj⟩ := hrow.unsnoc
      have hlx := x.isLt
      have hmin : leastL l on (min n.toNat (8 * l.length)) = some x.val := by
        refine leastL_is l on _ _ (by omega) hbit ?_
        intro i hi
        exact (Ht.out ⟨i, by omega⟩ (hr.mem _ (by simp) (by simp; omega))).2
      rw [hmin]; rfl
end Go.Proofs.Ythdkbhoeonnkmaa
