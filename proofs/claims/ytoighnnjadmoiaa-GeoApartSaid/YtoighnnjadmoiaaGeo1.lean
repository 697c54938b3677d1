/- Layer 5 (geo): which geometries may be, how many sectors the parts have. -/
import Derived.Test.YtoighnnjadmoiaaGeoM
import Derived.Test.YtoighnnjadmoiaaBaseArr
import Derived.Test.YtoighnnjadmoiaaBaseStill
namespace Go.Proofs.Ytoighnnjadmoiaa
open Go.RowKit
set_option linter.unusedVariables false
set_option linter.unusedSimpArgs false
set_option maxRecDepth 10000
/-- A geometry as a value. -/
abbrev geoV (i b j : Int) : Value := .agg #[.int .i64 i, .int .i64 b, .int .i64 j]
abbrev gv (G : Gm) : Value := geoV G.i G.b G.j
/-- Numbers of a geometry that may be. -/
def mayI (i b j : Int) : Prop := (2 ≤ i ∧ i ≤ 256) ∧ (8 ≤ b ∧ b ≤ 1024) ∧ (40 ≤ j ∧ j ≤ 256)
instance (i b j : Int) : Decidable (mayI i b j) := by unfold mayI; exact inferInstance
theorem mayI_gm {i b j : Int} (h : mayI i b j) : ∃ G : Gm, G.ok ∧ i = G.i ∧ b = G.b ∧ j = G.j := by
  unfold mayI at h
  exact ⟨⟨i.toNat, b.toNat, j.toNat⟩, by unfold Gm.ok; simp only; omega, by simp only; omega, by simp only; omega, by simp only; omega⟩
theorem gm_mayI {G : Gm} (h : G.ok) : mayI G.i G.b G.j := by
  unfold Gm.ok at h; unfold mayI; omega
set_option maxHeartbeats 400000 in
theorem within_in (n lo hi : Int) (w : World) (h1 : lo ≤ n) (h2 : n ≤ hi) :
    Calls Try.prog 25 #[.int .i64 n, .int .i64 lo, .int .i64 hi] w fun e w' => e = .returned (.bool true) ∧ w = w' := by
  go_enter Try.func25, Try.ntmps25
  go_wp2
  go_ret
  exact ⟨rfl, rfl⟩
set_option maxHeartbeats 400000 in
theorem within_out (n lo hi : Int) (w : World) (h : n < lo ∨ hi < n) :
    Calls Try.prog 25 #[.int .i64 n, .int .i64 lo, .int .i64 hi] w fun e w' => e = .returned (.bool false) ∧ w = w' := by
  by_cases h1 : lo ≤ n
  · have h2 : hi < n := by omega
    have hd : decide (n ≤ hi) = false := by simpa using h2
    clear h
    go_enter Try.func25, Try.ntmps25
    go_wp2
    go_ret
    exact ⟨rfl, rfl⟩
  · clear h
    go_enter Try.func25, Try.ntmps25
    go_wp2
    go_ret
    exact ⟨rfl, rfl⟩
set_option maxHeartbeats 400000 in
theorem needed_any (n p : Nat) (x y : Int) (hx : x = (n : Int)) (hy : y = (p : Int)) (w : World) (hn : n ≤ 1048576) (hp : 0 < p) (hp2 : p ≤ 1048576) :
    Calls Try.prog 38 #[.int .i64 x, .int .i64 y] w fun e w' => e = .returned (.int .i64 ((n + (p - 1)) / p : Nat)) ∧ w' = w := by
  subst hx hy
  have hq : ((n : Int) + (p : Int) - 1) / (p : Int) = (((n + (p - 1)) / p : Nat) : Int) := by
    rw [Int.natCast_ediv, show ((n + (p - 1) : Nat) : Int) = (n : Int) + (p : Int) - 1 by omega]
  have HQ := Lib.hid hq
  clear hq
  go_enter Try.func38, Try.ntmps38
  go_wp2
  go_ret
  exact ⟨congrArg (fun x => Ending.returned (.int .i64 x)) HQ.out, rfl⟩
set_option maxHeartbeats 400000 in
theorem may_ok (i b j : Int) (w : World) (h : mayI i b j) :
    Calls Try.prog 15 #[geoV i b j] w fun e w' => e = .returned (.bool true) ∧ Below w.heap.size w w' := by
  obtain ⟨⟨h1, h2⟩, ⟨h3, h4⟩, h5, h6⟩ := h
  go_enter Try.func15, Try.ntmps15
  go_wp2_with fail
  refine (within_in _ _ _ _ h1 h2).mono ?_
  rintro e w1 ⟨rfl, rfl⟩
  go_wp2_with fail
  refine (within_in _ _ _ _ h3 h4).mono ?_
  rintro e w1 ⟨rfl, rfl⟩
  go_wp2_with fail
  refine (within_in _ _ _ _ h5 h6).mono ?_
  rintro e w1 ⟨rfl, rfl⟩
  go_wp2_with fail
  go_ret
  exact ⟨rfl, (Below.refl _ _).alloc (Nat.le_refl _) _⟩
set_option maxHeartbeats 400000 in
theorem may_bad (i b j : Int) (w : World) (h : ¬ mayI i b j) :
    Calls Try.prog 15 #[geoV i b j] w fun e w' => e = .returned (.bool false) ∧ Below w.heap.size w w' := by
  unfold mayI at h
  by_cases h1 : 2 ≤ i ∧ i ≤ 256
  · by_cases h2 : 8 ≤ b ∧ b ≤ 1024
    · have h3 : j < 40 ∨ 256 < j := by omega
      clear h
      go_enter Try.func15, Try.ntmps15
      go_wp2_with fail
      refine (within_in _ _ _ _ h1.1 h1.2).mono ?_
      rintro e w1 ⟨rfl, rfl⟩
      go_wp2_with fail
      refine (within_in _ _ _ _ h2.1 h2.2).mono ?_
      rintro e w1 ⟨rfl, rfl⟩
      go_wp2_with fail
      refine (within_out _ _ _ _ h3).mono ?_
      rintro e w1 ⟨rfl, rfl⟩
      go_wp2_with fail
      go_ret
      exact ⟨rfl, (Below.refl _ _).alloc (Nat.le_refl _) _⟩
    · have h3 : b < 8 ∨ 1024 < b := by omega
      clear h h2
      go_enter Try.func15, Try.ntmps15
      go_wp2_with fail
      refine (within_in _ _ _ _ h1.1 h1.2).mono ?_
      rintro e w1 ⟨rfl, rfl⟩
      go_wp2_with fail
      refine (within_out _ _ _ _ h3).mono ?_
      rintro e w1 ⟨rfl, rfl⟩
      go_wp2_with fail
      go_ret
      exact ⟨rfl, (Below.refl _ _).alloc (Nat.le_refl _) _⟩
  · have h3 : i < 2 ∨ 256 < i := by omega
    clear h h1
    go_enter Try.func15, Try.ntmps15
    go_wp2_with fail
    refine (within_out _ _ _ _ h3).mono ?_
    rintro e w1 ⟨rfl, rfl⟩
    go_wp2_with fail
    go_ret
    exact ⟨rfl, (Below.refl _ _).alloc (Nat.le_refl _) _⟩
/-- The sizes of the parts, as cells. -/
def sizesL (G : Gm) : List Value := [.int .i64 1, .int .i64 (G.j : Int), .int .i64 (((G.i : Int) + 1 + 511) / 512), .int .i64 (((G.b : Int) + 1 + 511) / 512), .int .i64 (((G.i : Int) + 1) / 2), .int .i64 (G.b : Int)]
theorem sizesL_at (G : Gm) (p : Nat) (hp : p < 6) : (sizesL G)[p]? = some (.int .i64 (G.cnt p : Int)) := by
  match p, hp with
  | 0, _ | 1, _ | 5, _ => rfl
  | 2, _ | 3, _ | 4, _ =>
    simp only [sizesL, Gm.cnt, List.getElem?_cons_succ, List.getElem?_cons_zero, Option.some.injEq, Value.int.injEq, true_and]
    omega
theorem heap_drew2 (w : World) (o p : Obj) : ((w.alloc o).alloc p).drew.heap[w.heap.size + 1]? = some p := by
  have := heap_alloc_new (w.alloc o) p
  show ((w.alloc o).alloc p).heap[w.heap.size + 1]? = some p
  simpa using this
set_option maxHeartbeats 1000000 in
theorem sizes_any (G : Gm) (w : World) (h : G.ok) :
    Calls Try.prog 34 #[gv G] w fun e w' => e = .returned (.agg (sizesL G).toArray) ∧ Below w.heap.size w w' := by
  unfold Gm.ok at h
  obtain ⟨⟨h1, h2⟩, ⟨h3, h4⟩, h5, h6⟩ := h
  have n1 := Lib.hid fun W => needed_any (G.i + 1) 512 ((G.i : Int) + 1) 512 rfl rfl W (by omega) (by omega) (by omega)
  have n2 := Lib.hid fun W => needed_any (G.b + 1) 512 ((G.b : Int) + 1) 512 rfl rfl W (by omega) (by omega) (by omega)
  have n3 := Lib.hid fun W => needed_any G.i 2 (G.i : Int) 2 rfl rfl W (by omega) (by omega) (by omega)
  have e1 : IntKind.i64.wrap ((G.i : Int) + 1) = (G.i : Int) + 1 := IntWalk.i64_in _ (by omega)
  have e2 : IntKind.i64.wrap ((G.b : Int) + 1) = (G.b : Int) + 1 := IntWalk.i64_in _ (by omega)
  go_enter Try.func34, Try.ntmps34
  go_wp2_with fail
  refine still_tail 16 (by kernel_rfl) (by kernel_rfl) ?_
  simp only [List.take_succ_cons, List.take_zero, List.drop_succ_cons, List.drop_zero]
  repeat still_step
  still_call (n1.out _)
  repeat still_step
  still_call (n2.out _)
  repeat still_step
  still_call (n3.out _)
  repeat still_step
  refine wpStill_nil ?_
  clear e1 e2
  go_wp2
  refine bodyPost_ret (v := .agg (sizesL G).toArray) ?_ rfl ⟨rfl, (((Below.refl _ _).alloc (Nat.le_refl _) _).alloc (by simp) _).drew⟩
  exact results_cell_row rfl _ _ (w.heap.size + 1) 66 (sizesL G).toArray (0, 0) _ rfl (heap_drew2 _ _ _) Try.underlying66 rfl (by kernel_rfl)
end Go.Proofs.Ytoighnnjadmoiaa
