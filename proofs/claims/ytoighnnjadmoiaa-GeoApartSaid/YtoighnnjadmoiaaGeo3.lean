/- Layer 5 (geo): Part, Sectors, Inode, Block. -/
import Derived.Test.YtoighnnjadmoiaaGeo2
namespace Go.Proofs.Ytoighnnjadmoiaa
open Go.RowKit
set_option linter.unusedVariables false
set_option linter.unusedSimpArgs false
set_option maxRecDepth 10000
/-- A struct of one-cell fields, and one slot. -/
theorem results_row_tmp {fn : Func} {p q : Tmp} {ty : TypeId} {P : Program} (h : fn.results = #[.cell p ty, .tmp q]) (tmps : Array Value) (w : World) (g : Nat) (v : Value)
    (hp : tmps.getD p undef = .pointer (some ⟨g, 0, none⟩)) (hl : (loadVar ty ⟨g, 0, none⟩).run P w = .ok v w) :
    (results fn tmps).run P w = .ok (.tuple #[v, tmps.getD q undef]) w := by
  have hp' : tmps[p]?.getD undef = .pointer (some ⟨g, 0, none⟩) := by simpa using hp
  simp [results, h, hp', asAddr, hl]
/-- A part out of its block. -/
theorem load_span (W : World) (g : Nat) (a n : Int) (h : W.heap[g]? = some (.cells #[.int .i64 a, .int .i64 n] 28 (0, 0))) : (loadVar 28 ⟨g, 0, none⟩).run Try.prog W = .ok (spanV a n) W :=
  run_loadVar_row W g 28 28 _ (0, 0) _ h Try.underlying28 rfl (by kernel_rfl)
theorem load_geo (W : World) (g : Nat) (i b j : Int) (h : W.heap[g]? = some (.cells #[.int .i64 i, .int .i64 b, .int .i64 j] 23 (0, 0))) : (loadVar 23 ⟨g, 0, none⟩).run Try.prog W = .ok (geoV i b j) W :=
  run_loadVar_row W g 23 23 _ (0, 0) _ h Try.underlying23 rfl (by kernel_rfl)
theorem heap_new2 (w : World) (o p : Obj) : ((w.alloc o).alloc p).heap[w.heap.size + 1]? = some p := by
  have := heap_alloc_new (w.alloc o) p
  simpa using this
set_option maxHeartbeats 1000000 in
theorem part_ok (G : Gm) (p : Nat) (x : Int) (hx : x = (p : Int)) (w : World) (h : G.ok) (hp : p < 6) :
    Calls Try.prog 8 #[gv G, .int .i64 x] w fun e w' => e = .returned (.tuple #[partV G p, .int .i64 0]) ∧ Below w.heap.size w w' := by
  subst hx
  have HM := Lib.hid fun W => may_ok _ _ _ W (gm_mayI h)
  have HY := Lib.hid fun W => layout_any G W h
  have HI := Lib.hid fun W => within_in (p : Int) 0 5 W (by omega) (by omega)
  go_enter Try.func8, Try.ntmps8
  go_wp2_with fail
  with_reducible refine (HM.out _).mono ?_
  rintro e w1 ⟨rfl, hb⟩
  have B := Lib.hid hb
  obtain ⟨hc, hf⟩ := bcell hb
  clear hb
  go_wp2_with fail
  with_reducible refine (HI.out _).mono ?_
  rintro e w2 ⟨rfl, rfl⟩
  go_wp2_with fail
  with_reducible refine (HY.out _).mono ?_
  rintro e w2 ⟨bb, rfl, hL, hge, hb⟩
  have hz := B.out.size
  have B := Lib.hid (B.out.trans (hb.mono hz))
  clear hb hc hf
  obtain ⟨hc, hf⟩ := bcell B.out
  have HS := Lib.hid (span_any G p (p : Int) rfl bb w2 h hp hL)
  clear hL hge
  go_wp2_with fail
  with_reducible refine HS.out.mono ?_
  rintro e w3 ⟨rfl, hb⟩
  have hz2 := B.out.size
  have B := Lib.hid (B.out.trans (hb.mono hz2))
  clear hb hc hf
  obtain ⟨hc, hf⟩ := bcell B.out
  go_wp2_with fail
  have hrow := (B.out.block (w.heap.size + 1) (by simp)).trans (heap_new2 w _ _)
  refine bodyPost_ret (v := .tuple #[partV G p, .int .i64 0]) ?_ rfl ⟨rfl, (((((Below.refl _ _).alloc (Nat.le_refl _) _).alloc (by simp) _).trans (B.out.mono (by simp; omega))).setCell (by simp) _).setCell (by simp) _⟩
  exact results_row_tmp (p := 4) (q := 5) rfl _ _ (w.heap.size + 1) _ rfl (load_span _ _ _ _ (set2 hrow _ _))
def noPart (i b j x : Int) : Prop := ¬ mayI i b j ∨ x < 0 ∨ 5 < x
set_option maxHeartbeats 1000000 in
theorem part_bad (i b j x : Int) (w : World) (h : noPart i b j x) :
    Calls Try.prog 8 #[geoV i b j, .int .i64 x] w fun e w' => e = .returned (.tuple #[spanV 0 0, .int .i64 2]) ∧ Below w.heap.size w w' := by
  by_cases hm : mayI i b j
  · have hx : x < 0 ∨ 5 < x := by rcases h with h | h; exact absurd hm h; exact h
    have HM := Lib.hid fun W => may_ok _ _ _ W hm
    have HI := Lib.hid fun W => within_out x 0 5 W hx
    clear h hx hm
    go_enter Try.func8, Try.ntmps8
    go_wp2_with fail
    with_reducible refine (HM.out _).mono ?_
    rintro e w1 ⟨rfl, hb⟩
    have B := Lib.hid hb
    obtain ⟨hc, hf⟩ := bcell hb
    clear hb
    go_wp2_with fail
    with_reducible refine (HI.out _).mono ?_
    rintro e w2 ⟨rfl, rfl⟩
    go_wp2_with fail
    have hrow := (B.out.block (w.heap.size + 1) (by simp)).trans (heap_new2 w _ _)
    refine bodyPost_ret (v := .tuple #[spanV 0 0, .int .i64 2]) ?_ rfl ⟨rfl, (((((Below.refl _ _).alloc (Nat.le_refl _) _).alloc (by simp) _).trans (B.out.mono (by simp; omega))).setCell (by simp) _).setCell (by simp) _⟩
    exact results_row_tmp (p := 4) (q := 5) rfl _ _ (w.heap.size + 1) _ rfl (load_span _ _ _ _ (set2 hrow _ _))
  · have HM := Lib.hid fun W => may_bad _ _ _ W hm
    clear h hm
    go_enter Try.func8, Try.ntmps8
    go_wp2_with fail
    with_reducible refine (HM.out _).mono ?_
    rintro e w1 ⟨rfl, hb⟩
    have B := Lib.hid hb
    obtain ⟨hc, hf⟩ := bcell hb
    clear hb
    go_wp2_with fail
    have hrow := (B.out.block (w.heap.size + 1) (by simp)).trans (heap_new2 w _ _)
    refine bodyPost_ret (v := .tuple #[spanV 0 0, .int .i64 2]) ?_ rfl ⟨rfl, (((((Below.refl _ _).alloc (Nat.le_refl _) _).alloc (by simp) _).trans (B.out.mono (by simp; omega))).setCell (by simp) _).setCell (by simp) _⟩
    exact results_row_tmp (p := 4) (q := 5) rfl _ _ (w.heap.size + 1) _ rfl (load_span _ _ _ _ (set2 hrow _ _))
set_option maxHeartbeats 1000000 in
theorem sectors_ok (G : Gm) (w : World) (h : G.ok) :
    Calls Try.prog 17 #[gv G] w fun e w' => e = .returned (.int .i64 (G.all : Int)) ∧ Below w.heap.size w w' := by
  have HP := Lib.hid fun W => part_ok G 5 5 rfl W h (by omega)
  have h1 := G.off_le h 5 (by omega)
  have h2 := G.cnt_le h 5
  go_enter Try.func17, Try.ntmps17
  go_wp2_with fail
  with_reducible refine (HP.out _).mono ?_
  rintro e w1 ⟨rfl, hb⟩
  have B := Lib.hid hb
  clear hb
  go_wp2_with fail
  go_ret
  exact ⟨by simp [Gm.all, Gm.off_succ], (((Below.refl _ _).alloc (Nat.le_refl _) _).trans (B.out.mono (by simp))).alloc (by have := B.out.size; simp at this; omega) _⟩
set_option maxHeartbeats 1000000 in
theorem sectors_bad (i b j : Int) (w : World) (h : ¬ mayI i b j) :
    Calls Try.prog 17 #[geoV i b j] w fun e w' => e = .returned (.int .i64 0) ∧ Below w.heap.size w w' := by
  have HP := Lib.hid fun W => part_bad i b j 5 W (.inl h)
  clear h
  go_enter Try.func17, Try.ntmps17
  go_wp2_with fail
  with_reducible refine (HP.out _).mono ?_
  rintro e w1 ⟨rfl, hb⟩
  have B := Lib.hid hb
  clear hb
  go_wp2_with fail
  go_ret
  exact ⟨rfl, (((Below.refl _ _).alloc (Nat.le_refl _) _).trans (B.out.mono (by simp))).alloc (by have := B.out.size; simp at this; omega) _⟩
end Go.Proofs.Ytoighnnjadmoiaa
