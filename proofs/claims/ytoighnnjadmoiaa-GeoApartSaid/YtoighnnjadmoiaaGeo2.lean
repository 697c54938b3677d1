/- Layer 5 (geo): where the parts lie. -/
import Derived.Test.YtoighnnjadmoiaaGeo1
import Derived.BigRegion
namespace Go.Proofs.Ytoighnnjadmoiaa
open Go.RowKit
set_option linter.unusedVariables false
set_option linter.unusedSimpArgs false
set_option maxRecDepth 10000
/-- The sizes of the parts lie in block B. -/
def Laid (W : World) (B : Nat) (G : Gm) : Prop := W.heap[B]? = some (.cells (sizesL G).toArray 66 (0, 0))
theorem Laid.after {W W' : World} {B n : Nat} {G : Gm} (h : Laid W B G) (hb : Below n W W') (hn : B < n) : Laid W' B G := (hb.block B hn).trans h
theorem Laid.lt {W : World} {B : Nat} {G : Gm} (h : Laid W B G) : B < W.heap.size := (Array.getElem?_eq_some_iff.1 h).1
/-- The closure over the sizes in block B. -/
abbrev layV (B : Nat) : Value := .func (.func 35) #[] #[.pointer (some ⟨B, 0, none⟩)]
def LayPost (G : Gm) (w : World) (e : Ending) (w' : World) : Prop := ∃ B, e = .returned (layV B) ∧ Laid w' B G ∧ w.heap.size ≤ B ∧ Below w.heap.size w w'
set_option maxHeartbeats 400000 in
theorem layout_any (G : Gm) (w : World) (h : G.ok) : Calls Try.prog 26 #[gv G] w (LayPost G w) := by
  have hmf : ∀ (fn : Fn) (first cap : Array Value) (w : World), (Instr.makeFunc fn first cap).run Try.prog w = .ok (.func fn first cap) w := fun _ _ _ _ => rfl
  have hs := fun W => sizes_any G W h
  simp only [sizesL] at hs
  have HS := Lib.hid hs
  clear hs
  go_enter Try.func26, Try.ntmps26
  go_wp2_with fail
  refine (HS.out _).mono ?_
  rintro e w1 ⟨rfl, hb⟩
  have B := Lib.hid hb
  clear hb
  go_wp2_with fail
  go_ret
  exact ⟨w1.heap.size, rfl, heap_alloc_new _ _, by have := B.out.size; simp at this; omega, ((Below.refl _ _).alloc (Nat.le_refl _) _).trans (B.out.mono (by simp)) |>.alloc (by have := B.out.size; simp at this; omega) _⟩
/-- A part as a value. -/
abbrev spanV (a n : Int) : Value := .agg #[.int .i64 a, .int .i64 n]
abbrev partV (G : Gm) (p : Nat) : Value := spanV (G.off p) (G.cnt p)
theorem heap_low (w : World) (o p : Obj) : ((w.alloc o).alloc p).heap[w.heap.size]? = some o := by
  have h := heap_alloc_new w o
  have hb := (Below.refl (w.alloc o).heap.size (w.alloc o)).alloc (Nat.le_refl _) p
  rw [hb.block w.heap.size (by simp)]
  exact h
theorem set2 {W : World} {g : Nat} {a b : Value} {t : TypeId} (h : W.heap[g]? = some (.cells #[a, b] t (0, 0))) (x y : Value) :
    ((W.setCell ⟨g, 0, none⟩ x).setCell ⟨g, 1, none⟩ y).heap[g]? = some (.cells #[x, y] t (0, 0)) := by
  have h1 := heap_setCell_same W g 0 _ t x h
  have h2 := heap_setCell_same _ g 1 _ t y h1
  exact h2
set_option maxHeartbeats 1000000 in
theorem span_any (G : Gm) (p : Nat) (x : Int) (hx : x = (p : Int)) (B : Nat) (w : World) (h : G.ok) (hp : p < 6) (hL : Laid w B G) :
    Calls Try.prog 35 #[.int .i64 x, .pointer (some ⟨B, 0, none⟩)] w fun e w' => e = .returned (partV G p) ∧ Below w.heap.size w w' := by
  subst hx
  have hc := cell_of_row w B p _ 66 (0, 0) hL
  have hs := sizesL_at G p hp
  rw [List.getElem?_toArray, hs] at hc
  have hoff := fun k (hk : k ≤ 6) => G.off_le h k hk
  have hcnt := G.cnt_le h p
  have hB := hL.lt
  have HL := Lib.hid hL
  have Hoff := Lib.hid hoff
  clear hL hs hoff
  go_enter Try.func35, Try.ntmps35
  go_wp2_with fail
  go_loopw [5, 11] (fun _ i wr => ∃ k : Nat, k ≤ p ∧ i = .int .i64 k ∧ wr.heap[w.heap.size]? = some (.cells #[.int .i64 0, .int .i64 0] 28 (0, 0)) ∧ wr.heap[w.heap.size + 1]? = some (.cells #[.int .i64 (G.off k : Int), .int .i64 (G.cnt p : Int)] 28 (0, 0)) ∧ Below w.heap.size w wr) (fun _ i _ => p - (intOf i).toNat)
  case atStart => exact ⟨0, Nat.zero_le _, rfl, heap_low _ _ _, by have := heap_alloc_new (w.alloc (.cells #[.int .i64 0, .int .i64 0] 28)) (.cells #[.int .i64 0, .int .i64 (G.cnt p : Int)] 28); simpa [Gm.off] using this, ((Below.refl _ _).alloc (Nat.le_refl _) _).alloc (by simp) _⟩
  case round =>
    obtain ⟨k, hk, rfl, hr, hv, hb⟩ := hrel
    have hLw : Laid wr B G := HL.out.after hb hB
    have r0 := cell_of_row wr w.heap.size 0 _ 28 (0, 0) hr
    have r1 := cell_of_row wr w.heap.size 1 _ 28 (0, 0) hr
    have r2 := frozen_of_row wr w.heap.size 0 _ 28 hr
    have r3 := frozen_of_row wr w.heap.size 1 _ 28 hr
    have v0 := cell_of_row wr (w.heap.size + 1) 0 _ 28 (0, 0) hv
    have v1 := cell_of_row wr (w.heap.size + 1) 1 _ 28 (0, 0) hv
    have v2 := frozen_of_row wr (w.heap.size + 1) 0 _ 28 hv
    have v3 := frozen_of_row wr (w.heap.size + 1) 1 _ 28 hv
    simp only [List.getElem?_toArray, List.getElem?_cons_zero, List.getElem?_cons_succ] at r0 r1 v0 v1
    have ho := Hoff.out k (by omega)
    have Hr := Lib.hid hr
    have Hv := Lib.hid hv
    by_cases hlt : k < p
    · have hck := cell_of_row wr B k _ 66 (0, 0) hLw
      rw [List.getElem?_toArray, sizesL_at G k (by omega)] at hck
      have hcl := G.cnt_le h k
      clear hr hv hLw
      go_wp2_with fail
      go_region
      go_wp2_with fail
      go_roundw
      case rel =>
        refine ⟨k + 1, by omega, by go_num, ?_, ?_, (hb.setCell (by simp) _).drew⟩
        · show (wr.setCell _ _).heap[w.heap.size]? = _
          rw [heap_setCell_other _ _ _ _ (by simp)]
          exact Hr.out
        · show (wr.setCell _ _).heap[w.heap.size + 1]? = _
          have := heap_setCell_same wr (w.heap.size + 1) 0 _ 28 (.int .i64 ((G.off k : Int) + (G.cnt k : Int))) Hv.out
          rw [this]
          simp [Gm.off_succ]
      case measure => simp [intOf]; omega
    · have : k = p := by omega
      subst this
      clear hr hv hLw
      go_wp2_with fail
      refine bodyPost_ret (v := partV G k) ?_ rfl ⟨rfl, (hb.setCell (Nat.le_refl _) _).setCell (Nat.le_refl _) _⟩
      exact results_cell_row rfl _ _ w.heap.size 28 _ (0, 0) _ rfl (set2 Hr.out _ _) Try.underlying28 rfl (by kernel_rfl)
end Go.Proofs.Ytoighnnjadmoiaa
