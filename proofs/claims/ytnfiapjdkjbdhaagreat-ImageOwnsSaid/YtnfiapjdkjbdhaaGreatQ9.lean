import Derived.Test.YtnfiapjdkjbdhaaGreatQ8
namespace Go.Proofs.YtnfiapjdkjbdhaaGreat
open Go.RowKit
set_option linter.unusedVariables false
set_option linter.unusedSimpArgs false
set_option maxRecDepth 10000
end Go.Proofs.YtnfiapjdkjbdhaaGreat
/- Layer 7 (inode): which inodes may be. -/
namespace Go.Proofs.YtnfiapjdkjbdhaaGreat
open Go.RowKit
set_option linter.unusedVariables false
set_option linter.unusedSimpArgs false
set_option maxRecDepth 10000
theorem inside_five (z a b c d e : Nat) : inside z [a, b, c, d, e] ↔ (a = 0 ∨ 0 < z) ∧ (b = 0 ∨ 64 < z) ∧ (c = 0 ∨ 128 < z) ∧ (d = 0 ∨ 192 < z) ∧ (e = 0 ∨ 256 < z) := by
  unfold inside
  constructor
  · intro h
    exact ⟨by simpa using h 0 a rfl, by simpa using h 1 b rfl, by simpa using h 2 c rfl, by simpa using h 3 d rfl, by simpa using h 4 e rfl⟩
  · rintro ⟨h0, h1, h2, h3, h4⟩ j x hj
    match j, hj with
    | 0, hj => simp at hj; subst hj; simpa using h0
    | 1, hj => simp at hj; subst hj; simpa using h1
    | 2, hj => simp at hj; subst hj; simpa using h2
    | 3, hj => simp at hj; subst hj; simpa using h3
    | 4, hj => simp at hj; subst hj; simpa using h4
    | j + 5, hj => simp at hj
theorem kept_inside (z a b c d e : Nat) : (a = (if 0 < pagesN z then a else 0) ∧ b = (if 1 < pagesN z then b else 0) ∧ c = (if 2 < pagesN z then c else 0) ∧ d = (if 3 < pagesN z then d else 0) ∧ e = (if 4 < pagesN z then e else 0)) ↔ inside z [a, b, c, d, e] := by
  rw [inside_five]
  have hp : ∀ j, (j < pagesN z) = (64 * j < z) := fun j => by unfold pagesN; simp only [eq_iff_iff]; omega
  simp only [hp]
  have key : ∀ (x : Nat) (P : Prop) [Decidable P], (x = if P then x else 0) ↔ (x = 0 ∨ P) := fun x P _ => by
    split
    · rename_i h; simp [h]
    · rename_i h; simp [h]
  simp only [key, Nat.mul_zero, Nat.mul_one, Nat.reduceMul]
theorem may_zero {x : Im} (h : x.k = 0) : x.may ↔ x = Im.nought := by unfold Im.may; rw [if_pos h]
theorem may_more {x : Im} (h : 2 < x.k) : ¬ x.may := by
  unfold Im.may
  rw [if_neg (by omega)]
  rintro ⟨h1, _⟩
  omega
theorem may_dir {x : Im} (h : x.k = 2) (h2 : x.z % 64 ≠ 0) : ¬ x.may := by
  unfold Im.may
  rw [if_neg (by omega)]
  rintro ⟨_, _, _, h3, _⟩
  exact h2 (h3 h)
theorem may_one {x : Im} (h : x.k = 1 ∨ x.k = 2 ∧ x.z % 64 = 0) : x.may ↔ x.n ≤ 200 ∧ x.z ≤ 2304 ∧ inside x.z x.bl ∧ once x.bl := by
  unfold Im.may
  rw [if_neg (by omega)]
  constructor
  · rintro ⟨_, h1, h2, _, h3, h4⟩; exact ⟨h1, h2, h3, h4⟩
  · rintro ⟨h1, h2, h3, h4⟩; exact ⟨by omega, h1, h2, fun e => by omega, h3, h4⟩
set_option maxHeartbeats 400000 in
theorem valid_zero (x : Im) (h : x.k = 0) (w : World) :
    Calls Tryz.prog 151 #[x.v] w fun e w' => e = .returned (.bool (decide x.may)) ∧ Below w.heap.size w w' := by
  have heq := fun W => eq_nought x W
  have e : decide x.may = decide (x = Im.nought) := by simp only [may_zero h]
  rw [e]
  clear e
  have hk : ((x.k : Int) == 0) = true := by rw [h]; rfl
  have Hh := Lib.hid h
  clear h
  go_enter Tryz.func151, Tryz.ntmps151
  go_wp2
  go_ret
  exact ⟨rfl, (Below.refl _ _).alloc (Nat.le_refl _) _⟩
set_option maxHeartbeats 400000 in
theorem valid_more (x : Im) (h : 2 < x.k) (w : World) :
    Calls Tryz.prog 151 #[x.v] w fun e w' => e = .returned (.bool (decide x.may)) ∧ Below w.heap.size w w' := by
  have e : decide x.may = false := by simp [may_more h]
  rw [e]
  clear e
  have hk : ((x.k : Int) == 0) = false := by simp; omega
  have hk1 : ((x.k : Int) == 1) = false := by simp; omega
  have hk2 : ((x.k : Int) == 2) = false := by simp; omega
  have Hh := Lib.hid h
  clear h
  go_enter Tryz.func151, Tryz.ntmps151
  go_wp2
  go_ret
  exact ⟨rfl, (Below.refl _ _).alloc (Nat.le_refl _) _⟩
set_option maxHeartbeats 400000 in
theorem valid_dir (x : Im) (h : x.k = 2) (h2 : x.z % 64 ≠ 0) (hz : x.z < 4294967296) (w : World) :
    Calls Tryz.prog 151 #[x.v] w fun e w' => e = .returned (.bool (decide x.may)) ∧ Below w.heap.size w w' := by
  have e : decide x.may = false := by simp [may_dir h h2]
  rw [e]
  clear e
  have hk : ((x.k : Int) == 0) = false := by simp; omega
  have hk1 : ((x.k : Int) == 1) = false := by simp; omega
  have hk2 : ((x.k : Int) == 2) = true := by simp; omega
  have hm : ((x.z : Int) % 64 != 0) = true := by simp; omega
  have Hh := Lib.hid h
  clear h
  go_enter Tryz.func151, Tryz.ntmps151
  go_wp2
  go_ret
  exact ⟨rfl, (Below.refl _ _).alloc (Nat.le_refl _) _⟩
theorem row_lt' {w : World} {g : Nat} {o : Obj} (h : w.heap[g]? = some o) : g < w.heap.size := (Array.getElem?_eq_some_iff.1 h).1
theorem bl_lt {x : Im} (h : x.fits) : ∀ y ∈ x.bl, y < 65536 := by
  intro y hy
  obtain ⟨_, _, _, h0, h1, h2, h3, h4⟩ := h
  simp only [Im.bl, List.mem_cons, List.not_mem_nil, or_false] at hy
  rcases hy with rfl | rfl | rfl | rfl | rfl <;> assumption
set_option maxHeartbeats 4000000 in
theorem valid_file (x : Im) (hf : x.fits) (h : x.k = 1) (w : World) (t : Bool) (ht : t = true ↔ x.n ≤ 200 ∧ x.z ≤ 2304 ∧ inside x.z x.bl ∧ once x.bl) :
    Calls Tryz.prog 151 #[x.v] w fun e w' => e = .returned (.bool t) ∧ Below w.heap.size w w' := by
  have Ht := Lib.hid ht
  clear ht
  have hk : ((x.k : Int) == 0) = false := by simp; omega
  have hk1 : ((x.k : Int) == 1) = true := by simp; omega
  have HN := Lib.hid fun W => named_any x W
  have Hh := Lib.hid h
  clear h
  go_enter Tryz.func151, Tryz.ntmps151
  go_wp2_with fail
  refine (HN.out _).mono ?_
  rintro e w1 ⟨rfl, hb1⟩
  have hx : w1.heap[w.heap.size]? = some (.cells #[.int .u8 x.k, w16 x.n, .int .u32 x.z, w16 x.d0, w16 x.d1, w16 x.d2, w16 x.d3, w16 x.i] 41 (0, 0)) := (hb1.block w.heap.size (by simp)).trans (heap_alloc_new _ _)
  have hlt1 : w.heap.size < w1.heap.size := row_lt' hx
  have hxn : w1.cell? ⟨w.heap.size, 1, none⟩ = some (w16 x.n) := cell_of_row _ _ 1 _ _ (0, 0) hx
  have hxz : w1.cell? ⟨w.heap.size, 2, none⟩ = some (.int .u32 x.z) := cell_of_row _ _ 2 _ _ (0, 0) hx
  have Hx := Lib.hid hx
  have Hb1 := Lib.hid hb1
  clear hx hb1
  go_wp2_with fail
  have hl := Lib.hid (heap_alloc_new w1 (.cells #[.int .u16 x.d0, .int .u16 x.d1, .int .u16 x.d2, .int .u16 x.d3, .int .u16 x.i] 170))
  have l0 := cell_of_row _ _ 0 _ _ (0, 0) hl.out
  have l1 := cell_of_row _ _ 1 _ _ (0, 0) hl.out
  have l2 := cell_of_row _ _ 2 _ _ (0, 0) hl.out
  have l3 := cell_of_row _ _ 3 _ _ (0, 0) hl.out
  have l4 := cell_of_row _ _ 4 _ _ (0, 0) hl.out
  simp only [List.getElem?_toArray, List.getElem?_cons_zero, List.getElem?_cons_succ] at l0 l1 l2 l3 l4
  have C := Lib.hid ((Below.refl w1.heap.size w1).alloc (Nat.le_refl _) (.cells #[.int .u16 x.d0, .int .u16 x.d1, .int .u16 x.d2, .int .u16 x.d3, .int .u16 x.i] 170))
  have k1 := (C.out.cell (p := ⟨w.heap.size, 1, none⟩) hlt1).trans hxn
  have k2 := (C.out.cell (p := ⟨w.heap.size, 2, none⟩) hlt1).trans hxz
  have hltA : w.heap.size < (w1.alloc (.cells #[.int .u16 x.d0, .int .u16 x.d1, .int .u16 x.d2, .int .u16 x.d3, .int .u16 x.i] 170)).heap.size := by simp; omega
  have hltB : w1.heap.size < (w1.alloc (.cells #[.int .u16 x.d0, .int .u16 x.d1, .int .u16 x.d2, .int .u16 x.d3, .int .u16 x.i] 170)).heap.size := by simp
  generalize w1.alloc (.cells #[.int .u16 x.d0, .int .u16 x.d1, .int .u16 x.d2, .int .u16 x.d3, .int .u16 x.i] 170) = W2 at *
  have hBB := (((Below.refl w.heap.size w).alloc (Nat.le_refl _) (.cells #[.int .u8 x.k, w16 x.n, .int .u32 x.z, w16 x.d0, w16 x.d1, w16 x.d2, w16 x.d3, w16 x.i] 41)).trans (Hb1.out.mono (by simp))).trans (C.out.mono (by omega))
  by_cases c1 : x.n ≤ 200
  case neg =>
    have q1 : decide ((x.n : Int) ≤ 200) = false := by simp; omega
    go_quiet (fail)
    go_wp2
    go_ret
    exact ⟨by rw [show t = false from Bool.eq_false_iff.2 fun e => c1 (Ht.out.1 e).1]; rfl, below_drewN hBB _⟩
  have q1 : decide ((x.n : Int) ≤ 200) = true := by simp; omega
  by_cases c2 : x.z ≤ 2304
  case neg =>
    have q2 : decide ((x.z : Int) ≤ 2304) = false := by simp; omega
    go_quiet (fail)
    go_wp2
    go_ret
    exact ⟨by rw [show t = false from Bool.eq_false_iff.2 fun e => c2 (Ht.out.1 e).2.1]; rfl, below_drewN hBB _⟩
  have q2 : decide ((x.z : Int) ≤ 2304) = true := by simp; omega
  have HW := Lib.hid fun W => iWithin_any x.d0 x.d1 x.d2 x.d3 x.i x.z W (by omega)
  have HE := Lib.hid (kept_inside x.z x.d0 x.d1 x.d2 x.d3 x.i)
  have HQ := fun W => eq_five_nat x.d0 x.d1 x.d2 x.d3 x.i (if 0 < pagesN x.z then x.d0 else 0) (if 1 < pagesN x.z then x.d1 else 0) (if 2 < pagesN x.z then x.d2 else 0) (if 3 < pagesN x.z then x.d3 else 0) (if 4 < pagesN x.z then x.i else 0) W
  unfold keptL at HW
  generalize (if 0 < pagesN x.z then x.d0 else 0) = e0 at *
  generalize (if 1 < pagesN x.z then x.d1 else 0) = e1 at *
  generalize (if 2 < pagesN x.z then x.d2 else 0) = e2 at *
  generalize (if 3 < pagesN x.z then x.d3 else 0) = e3 at *
  generalize (if 4 < pagesN x.z then x.i else 0) = e4 at *
  by_cases c3 : inside x.z x.bl
  case neg =>
    have hq3 : decide (x.d0 = e0 ∧ x.d1 = e1 ∧ x.d2 = e2 ∧ x.d3 = e3 ∧ x.i = e4) = false := decide_eq_false fun e => c3 (HE.out.1 e)
    simp only [hq3] at HQ
    refine wp_region_held_drew (S := (fun W => W.cell? ⟨w.heap.size, 1, none⟩ = some (w16 x.n) ∧ W.cell? ⟨w.heap.size, 2, none⟩ = some (.int .u32 x.z) ∧ W.cell? ⟨w1.heap.size, 0, none⟩ = some (w16 x.d0) ∧ W.cell? ⟨w1.heap.size, 1, none⟩ = some (w16 x.d1) ∧ W.cell? ⟨w1.heap.size, 2, none⟩ = some (w16 x.d2) ∧ W.cell? ⟨w1.heap.size, 3, none⟩ = some (w16 x.d3) ∧ W.cell? ⟨w1.heap.size, 4, none⟩ = some (w16 x.i))) (by kernel_rfl) (⟨k1, k2, l0, l1, l2, l3, l4⟩) (fun hHeld => ?_)
    refine wpAnyH_take (i := 0) (oi := _) (v := ?_) rfl (by kernel_rfl) (by kernel_rfl) (by kernel_rfl) (fun _ _ _ h => h) (Or.inl ⟨by rfl, ?_⟩) (by assumption) ?_
    rotate_left
    · intro w hSw
      try dsimp only at hSw
      go_simp
      try with_reducible rfl
    (try simp only [Act.put, List.setIfInBounds_toArray, List.set_cons_zero, List.set_cons_succ, List.getElem_toArray, List.getElem_cons_zero, List.getElem_cons_succ])
    refine wpAnyH_take (i := 1) (oi := _) (v := ?_) rfl (by kernel_rfl) (by kernel_rfl) (by kernel_rfl) (fun _ _ _ h => h) (Or.inl ⟨by rfl, ?_⟩) (by assumption) ?_
    rotate_left
    · intro w hSw
      try dsimp only at hSw
      go_simp
      try with_reducible rfl
    (try simp only [Act.put, List.setIfInBounds_toArray, List.set_cons_zero, List.set_cons_succ, List.getElem_toArray, List.getElem_cons_zero, List.getElem_cons_succ])
    refine wpAnyH_take (i := 2) (oi := _) (v := ?_) rfl (by kernel_rfl) (by kernel_rfl) (by kernel_rfl) (fun _ _ _ h => h) (Or.inl ⟨by rfl, ?_⟩) (by assumption) ?_
    rotate_left
    · intro w hSw
      try dsimp only at hSw
      go_simp
      try with_reducible rfl
    (try simp only [Act.put, List.setIfInBounds_toArray, List.set_cons_zero, List.set_cons_succ, List.getElem_toArray, List.getElem_cons_zero, List.getElem_cons_succ])
    refine wpAnyH_take (i := 3) (oi := _) (v := ?_) rfl (by kernel_rfl) (by kernel_rfl) (by kernel_rfl) (fun _ _ _ h => h) (Or.inl ⟨by rfl, ?_⟩) (by assumption) ?_
    rotate_left
    · intro w hSw
      try dsimp only at hSw
      go_simp
      try with_reducible rfl
    (try simp only [Act.put, List.setIfInBounds_toArray, List.set_cons_zero, List.set_cons_succ, List.getElem_toArray, List.getElem_cons_zero, List.getElem_cons_succ])
    refine wpAnyH_take (i := 4) (oi := _) (v := ?_) rfl (by kernel_rfl) (by kernel_rfl) (by kernel_rfl) (fun _ _ _ h => h) (Or.inl ⟨by rfl, ?_⟩) (by assumption) ?_
    rotate_left
    · intro w hSw
      try dsimp only at hSw
      go_simp
      try with_reducible rfl
    (try simp only [Act.put, List.setIfInBounds_toArray, List.set_cons_zero, List.set_cons_succ, List.getElem_toArray, List.getElem_cons_zero, List.getElem_cons_succ])
    refine wpAnyH_take (i := 5) (oi := _) (v := ?_) rfl (by kernel_rfl) (by kernel_rfl) (by kernel_rfl) (fun _ _ _ h => h) (Or.inl ⟨by rfl, ?_⟩) (by assumption) ?_
    rotate_left
    · intro w hSw
      try dsimp only at hSw
      go_simp
      try with_reducible rfl
    (try simp only [Act.put, List.setIfInBounds_toArray, List.set_cons_zero, List.set_cons_succ, List.getElem_toArray, List.getElem_cons_zero, List.getElem_cons_succ])
    refine wpAnyH_take (i := 6) (oi := _) (v := ?_) rfl (by kernel_rfl) (by kernel_rfl) (by kernel_rfl) (fun _ _ _ h => h) (Or.inl ⟨by rfl, ?_⟩) (by assumption) ?_
    rotate_left
    · intro w hSw
      try dsimp only at hSw
      go_simp
      try with_reducible rfl
    (try simp only [Act.put, List.setIfInBounds_toArray, List.set_cons_zero, List.set_cons_succ, List.getElem_toArray, List.getElem_cons_zero, List.getElem_cons_succ])
    refine wpAnyH_take (i := 7) (oi := _) (v := ?_) rfl (by kernel_rfl) (by kernel_rfl) (by kernel_rfl) (fun _ _ _ h => h) (Or.inl ⟨by rfl, ?_⟩) (by assumption) ?_
    rotate_left
    · intro w hSw
      try dsimp only at hSw
      go_simp
      try with_reducible rfl
    (try simp only [Act.put, List.setIfInBounds_toArray, List.set_cons_zero, List.set_cons_succ, List.getElem_toArray, List.getElem_cons_zero, List.getElem_cons_succ])
    refine wpAnyH_take (i := 8) (oi := _) (v := ?_) rfl (by kernel_rfl) (by kernel_rfl) (by kernel_rfl) (fun _ _ _ h => h) (Or.inl ⟨by rfl, ?_⟩) (by assumption) ?_
    rotate_left
    · intro w hSw
      try dsimp only at hSw
      go_simp
      try with_reducible rfl
    (try simp only [Act.put, List.setIfInBounds_toArray, List.set_cons_zero, List.set_cons_succ, List.getElem_toArray, List.getElem_cons_zero, List.getElem_cons_succ])
    refine wpAnyH_take (i := 9) (oi := _) (v := ?_) rfl (by kernel_rfl) (by kernel_rfl) (by kernel_rfl) (fun _ _ _ h => h) (Or.inl ⟨by rfl, ?_⟩) (by assumption) ?_
    rotate_left
    · intro w hSw
      try dsimp only at hSw
      go_simp
      try with_reducible rfl
    (try simp only [Act.put, List.setIfInBounds_toArray, List.set_cons_zero, List.set_cons_succ, List.getElem_toArray, List.getElem_cons_zero, List.getElem_cons_succ])
    refine wpAnyH_take (i := 10) (oi := _) (v := ?_) rfl (by kernel_rfl) (by kernel_rfl) (by kernel_rfl) (fun _ _ _ h => h) (Or.inl ⟨by rfl, ?_⟩) (by assumption) ?_
    rotate_left
    · intro w hSw
      try dsimp only at hSw
      go_simp
      try with_reducible rfl
    (try simp only [Act.put, List.setIfInBounds_toArray, List.set_cons_zero, List.set_cons_succ, List.getElem_toArray, List.getElem_cons_zero, List.getElem_cons_succ])
    refine wpAnyH_take (i := 11) (oi := _) (v := ?_) rfl (by kernel_rfl) (by kernel_rfl) (by kernel_rfl) (fun _ _ _ h => h) (Or.inl ⟨by rfl, ?_⟩) (by assumption) ?_
    rotate_left
    · intro w hSw
      try dsimp only at hSw
      go_simp
      try with_reducible rfl
    (try simp only [Act.put, List.setIfInBounds_toArray, List.set_cons_zero, List.set_cons_succ, List.getElem_toArray, List.getElem_cons_zero, List.getElem_cons_succ])
    refine wpAnyH_take (i := 12) (oi := _) (v := ?_) rfl (by kernel_rfl) (by kernel_rfl) (by kernel_rfl) (fun _ _ _ h => h) (Or.inl ⟨by rfl, ?_⟩) (by assumption) ?_
    rotate_left
    · intro w hSw
      try dsimp only at hSw
      go_simp
      try with_reducible rfl
    (try simp only [Act.put, List.setIfInBounds_toArray, List.set_cons_zero, List.set_cons_succ, List.getElem_toArray, List.getElem_cons_zero, List.getElem_cons_succ])
    refine wpAnyH_ready (rs := [13]) (by kernel_rfl) (by simp) ?_
    refine AllReadyH.cons (o := _) rfl (fun K hK => ?_) AllReadyH.nil
    go_simp
    refine (HW.out _).mono ?_
    rintro e w2 ⟨rfl, hc0⟩
    refine hK.out _ _ (⟨(hc0.cell (p := ⟨w.heap.size, 1, none⟩) hltA).trans k1, (hc0.cell (p := ⟨w.heap.size, 2, none⟩) hltA).trans k2, (hc0.cell (p := ⟨w1.heap.size, 0, none⟩) hltB).trans l0, (hc0.cell (p := ⟨w1.heap.size, 1, none⟩) hltB).trans l1, (hc0.cell (p := ⟨w1.heap.size, 2, none⟩) hltB).trans l2, (hc0.cell (p := ⟨w1.heap.size, 3, none⟩) hltB).trans l3, (hc0.cell (p := ⟨w1.heap.size, 4, none⟩) hltB).trans l4⟩) (fun hHeld => ?_)
    clear hK K
    (try simp only [Act.put, List.setIfInBounds_toArray, List.set_cons_zero, List.set_cons_succ, List.getElem_toArray, List.getElem_cons_zero, List.getElem_cons_succ])
    refine wpAnyH_take (i := 14) (oi := _) (v := ?_) rfl (by kernel_rfl) (by kernel_rfl) (by kernel_rfl) (fun _ _ _ h => h) (Or.inl ⟨by rfl, ?_⟩) (by assumption) ?_
    rotate_left
    · intro w hSw
      try dsimp only at hSw
      go_simp
      try with_reducible rfl
    (try simp only [Act.put, List.setIfInBounds_toArray, List.set_cons_zero, List.set_cons_succ, List.getElem_toArray, List.getElem_cons_zero, List.getElem_cons_succ])
    refine wpAnyH_take (i := 15) (oi := _) (v := ?_) rfl (by kernel_rfl) (by kernel_rfl) (by kernel_rfl) (fun _ _ _ h => h) (Or.inl ⟨by rfl, ?_⟩) (by assumption) ?_
    rotate_left
    · intro w hSw
      try dsimp only at hSw
      go_simp
      try with_reducible rfl
    (try simp only [Act.put, List.setIfInBounds_toArray, List.set_cons_zero, List.set_cons_succ, List.getElem_toArray, List.getElem_cons_zero, List.getElem_cons_succ])
    refine wpAnyH_take (i := 16) (oi := _) (v := ?_) rfl (by kernel_rfl) (by kernel_rfl) (by kernel_rfl) (fun _ _ _ h => h) (Or.inl ⟨by rfl, ?_⟩) (by assumption) ?_
    rotate_left
    · intro w hSw
      try dsimp only at hSw
      go_simp
      try with_reducible rfl
    (try simp only [Act.put, List.setIfInBounds_toArray, List.set_cons_zero, List.set_cons_succ, List.getElem_toArray, List.getElem_cons_zero, List.getElem_cons_succ])
    refine wpAnyH_take (i := 17) (oi := _) (v := undef) rfl (by kernel_rfl) (by kernel_rfl) (by kernel_rfl) (fun _ _ _ h => h) (Or.inr ⟨by rfl, rfl⟩) (by assumption) ?_
    (try simp only [Act.put, List.setIfInBounds_toArray, List.set_cons_zero, List.set_cons_succ, List.getElem_toArray, List.getElem_cons_zero, List.getElem_cons_succ])
    refine wpAnyH_take (i := 18) (oi := _) (v := undef) rfl (by kernel_rfl) (by kernel_rfl) (by kernel_rfl) (fun _ _ _ h => h) (Or.inr ⟨by rfl, rfl⟩) (by assumption) ?_
    (try simp only [Act.put, List.setIfInBounds_toArray, List.set_cons_zero, List.set_cons_succ, List.getElem_toArray, List.getElem_cons_zero, List.getElem_cons_succ])
    refine wpAnyH_take (i := 19) (oi := _) (v := undef) rfl (by kernel_rfl) (by kernel_rfl) (by kernel_rfl) (fun _ _ _ h => h) (Or.inr ⟨by rfl, rfl⟩) (by assumption) ?_
    (try simp only [Act.put, List.setIfInBounds_toArray, List.set_cons_zero, List.set_cons_succ, List.getElem_toArray, List.getElem_cons_zero, List.getElem_cons_succ])
    refine wpAnyH_take (i := 20) (oi := _) (v := ?_) rfl (by kernel_rfl) (by kernel_rfl) (by kernel_rfl) (fun _ _ _ h => h) (Or.inl ⟨by rfl, ?_⟩) (by assumption) ?_
    rotate_left
    · intro w hSw
      try dsimp only at hSw
      go_simp
      try with_reducible rfl
    (try simp only [Act.put, List.setIfInBounds_toArray, List.set_cons_zero, List.set_cons_succ, List.getElem_toArray, List.getElem_cons_zero, List.getElem_cons_succ])
    refine wpAnyH_take (i := 21) (oi := _) (v := ?_) rfl (by kernel_rfl) (by kernel_rfl) (by kernel_rfl) (fun _ _ _ h => h) (Or.inl ⟨by rfl, ?_⟩) (by assumption) ?_
    rotate_left
    · intro w hSw
      try dsimp only at hSw
      go_simp
      try with_reducible rfl
    (try simp only [Act.put, List.setIfInBounds_toArray, List.set_cons_zero, List.set_cons_succ, List.getElem_toArray, List.getElem_cons_zero, List.getElem_cons_succ])
    refine wpAnyH_done (by kernel_rfl) ?_ _
    go_wp2
    go_ret
    exact ⟨by rw [show t = false from Bool.eq_false_iff.2 fun e => c3 (Ht.out.1 e).2.2.1]; rfl, hBB.drew.trans (hc0.mono hBB.size)⟩
  have hq3 : decide (x.d0 = e0 ∧ x.d1 = e1 ∧ x.d2 = e2 ∧ x.d3 = e3 ∧ x.i = e4) = true := decide_eq_true (HE.out.2 c3)
  simp only [hq3] at HQ
  have HT := Lib.hid fun W (h : U16s W (.slice (some ⟨w1.heap.size, 0, none⟩) 5 5) x.bl) => twice_any x.bl _ W h (bl_lt hf) (by simp [Im.bl])
  have hto : t = !(decide (¬ once x.bl)) := by
    by_cases ho : once x.bl
    · simp [ho, Ht.out.2 ⟨c1, c2, c3, ho⟩]
    · simp [ho, Bool.eq_false_iff.2 fun e => ho (Ht.out.1 e).2.2.2]
  have Hto := Lib.hid hto
  clear hto
  generalize decide (¬ once x.bl) = o at *
  refine wp_region_held_drew (S := (fun W => W.cell? ⟨w.heap.size, 1, none⟩ = some (w16 x.n) ∧ W.cell? ⟨w.heap.size, 2, none⟩ = some (.int .u32 x.z) ∧ W.cell? ⟨w1.heap.size, 0, none⟩ = some (w16 x.d0) ∧ W.cell? ⟨w1.heap.size, 1, none⟩ = some (w16 x.d1) ∧ W.cell? ⟨w1.heap.size, 2, none⟩ = some (w16 x.d2) ∧ W.cell? ⟨w1.heap.size, 3, none⟩ = some (w16 x.d3) ∧ W.cell? ⟨w1.heap.size, 4, none⟩ = some (w16 x.i))) (by kernel_rfl) (⟨k1, k2, l0, l1, l2, l3, l4⟩) (fun hHeld => ?_)
  refine wpAnyH_take (i := 0) (oi := _) (v := ?_) rfl (by kernel_rfl) (by kernel_rfl) (by kernel_rfl) (fun _ _ _ h => h) (Or.inl ⟨by rfl, ?_⟩) (by assumption) ?_
  rotate_left
  · intro w hSw
    try dsimp only at hSw
    go_simp
    try with_reducible rfl
  (try simp only [Act.put, List.setIfInBounds_toArray, List.set_cons_zero, List.set_cons_succ, List.getElem_toArray, List.getElem_cons_zero, List.getElem_cons_succ])
  refine wpAnyH_take (i := 1) (oi := _) (v := ?_) rfl (by kernel_rfl) (by kernel_rfl) (by kernel_rfl) (fun _ _ _ h => h) (Or.inl ⟨by rfl, ?_⟩) (by assumption) ?_
  rotate_left
  · intro w hSw
    try dsimp only at hSw
    go_simp
    try with_reducible rfl
  (try simp only [Act.put, List.setIfInBounds_toArray, List.set_cons_zero, List.set_cons_succ, List.getElem_toArray, List.getElem_cons_zero, List.getElem_cons_succ])
  refine wpAnyH_take (i := 2) (oi := _) (v := ?_) rfl (by kernel_rfl) (by kernel_rfl) (by kernel_rfl) (fun _ _ _ h => h) (Or.inl ⟨by rfl, ?_⟩) (by assumption) ?_
  rotate_left
  · intro w hSw
    try dsimp only at hSw
    go_simp
    try with_reducible rfl
  (try simp only [Act.put, List.setIfInBounds_toArray, List.set_cons_zero, List.set_cons_succ, List.getElem_toArray, List.getElem_cons_zero, List.getElem_cons_succ])
  refine wpAnyH_take (i := 3) (oi := _) (v := ?_) rfl (by kernel_rfl) (by kernel_rfl) (by kernel_rfl) (fun _ _ _ h => h) (Or.inl ⟨by rfl, ?_⟩) (by assumption) ?_
  rotate_left
  · intro w hSw
    try dsimp only at hSw
    go_simp
    try with_reducible rfl
  (try simp only [Act.put, List.setIfInBounds_toArray, List.set_cons_zero, List.set_cons_succ, List.getElem_toArray, List.getElem_cons_zero, List.getElem_cons_succ])
  refine wpAnyH_take (i := 4) (oi := _) (v := ?_) rfl (by kernel_rfl) (by kernel_rfl) (by kernel_rfl) (fun _ _ _ h => h) (Or.inl ⟨by rfl, ?_⟩) (by assumption) ?_
  rotate_left
  · intro w hSw
    try dsimp only at hSw
    go_simp
    try with_reducible rfl
  (try simp only [Act.put, List.setIfInBounds_toArray, List.set_cons_zero, List.set_cons_succ, List.getElem_toArray, List.getElem_cons_zero, List.getElem_cons_succ])
  refine wpAnyH_take (i := 5) (oi := _) (v := ?_) rfl (by kernel_rfl) (by kernel_rfl) (by kernel_rfl) (fun _ _ _ h => h) (Or.inl ⟨by rfl, ?_⟩) (by assumption) ?_
  rotate_left
  · intro w hSw
    try dsimp only at hSw
    go_simp
    try with_reducible rfl
  (try simp only [Act.put, List.setIfInBounds_toArray, List.set_cons_zero, List.set_cons_succ, List.getElem_toArray, List.getElem_cons_zero, List.getElem_cons_succ])
  refine wpAnyH_take (i := 6) (oi := _) (v := ?_) rfl (by kernel_rfl) (by kernel_rfl) (by kernel_rfl) (fun _ _ _ h => h) (Or.inl ⟨by rfl, ?_⟩) (by assumption) ?_
  rotate_left
  · intro w hSw
    try dsimp only at hSw
    go_simp
    try with_reducible rfl
  (try simp only [Act.put, List.setIfInBounds_toArray, List.set_cons_zero, List.set_cons_succ, List.getElem_toArray, List.getElem_cons_zero, List.getElem_cons_succ])
  refine wpAnyH_take (i := 7) (oi := _) (v := ?_) rfl (by kernel_rfl) (by kernel_rfl) (by kernel_rfl) (fun _ _ _ h => h) (Or.inl ⟨by rfl, ?_⟩) (by assumption) ?_
  rotate_left
  · intro w hSw
    try dsimp only at hSw
    go_simp
    try with_reducible rfl
  (try simp only [Act.put, List.setIfInBounds_toArray, List.set_cons_zero, List.set_cons_succ, List.getElem_toArray, List.getElem_cons_zero, List.getElem_cons_succ])
  refine wpAnyH_take (i := 8) (oi := _) (v := ?_) rfl (by kernel_rfl) (by kernel_rfl) (by kernel_rfl) (fun _ _ _ h => h) (Or.inl ⟨by rfl, ?_⟩) (by assumption) ?_
  rotate_left
  · intro w hSw
    try dsimp only at hSw
    go_simp
    try with_reducible rfl
  (try simp only [Act.put, List.setIfInBounds_toArray, List.set_cons_zero, List.set_cons_succ, List.getElem_toArray, List.getElem_cons_zero, List.getElem_cons_succ])
  refine wpAnyH_take (i := 9) (oi := _) (v := ?_) rfl (by kernel_rfl) (by kernel_rfl) (by kernel_rfl) (fun _ _ _ h => h) (Or.inl ⟨by rfl, ?_⟩) (by assumption) ?_
  rotate_left
  · intro w hSw
    try dsimp only at hSw
    go_simp
    try with_reducible rfl
  (try simp only [Act.put, List.setIfInBounds_toArray, List.set_cons_zero, List.set_cons_succ, List.getElem_toArray, List.getElem_cons_zero, List.getElem_cons_succ])
  refine wpAnyH_take (i := 10) (oi := _) (v := ?_) rfl (by kernel_rfl) (by kernel_rfl) (by kernel_rfl) (fun _ _ _ h => h) (Or.inl ⟨by rfl, ?_⟩) (by assumption) ?_
  rotate_left
  · intro w hSw
    try dsimp only at hSw
    go_simp
    try with_reducible rfl
  (try simp only [Act.put, List.setIfInBounds_toArray, List.set_cons_zero, List.set_cons_succ, List.getElem_toArray, List.getElem_cons_zero, List.getElem_cons_succ])
  refine wpAnyH_take (i := 11) (oi := _) (v := ?_) rfl (by kernel_rfl) (by kernel_rfl) (by kernel_rfl) (fun _ _ _ h => h) (Or.inl ⟨by rfl, ?_⟩) (by assumption) ?_
  rotate_left
  · intro w hSw
    try dsimp only at hSw
    go_simp
    try with_reducible rfl
  (try simp only [Act.put, List.setIfInBounds_toArray, List.set_cons_zero, List.set_cons_succ, List.getElem_toArray, List.getElem_cons_zero, List.getElem_cons_succ])
  refine wpAnyH_take (i := 12) (oi := _) (v := ?_) rfl (by kernel_rfl) (by kernel_rfl) (by kernel_rfl) (fun _ _ _ h => h) (Or.inl ⟨by rfl, ?_⟩) (by assumption) ?_
  rotate_left
  · intro w hSw
    try dsimp only at hSw
    go_simp
    try with_reducible rfl
  (try simp only [Act.put, List.setIfInBounds_toArray, List.set_cons_zero, List.set_cons_succ, List.getElem_toArray, List.getElem_cons_zero, List.getElem_cons_succ])
  refine wpAnyH_ready (rs := [13]) (by kernel_rfl) (by simp) ?_
  refine AllReadyH.cons (o := _) rfl (fun K hK => ?_) AllReadyH.nil
  go_simp
  refine (HW.out _).mono ?_
  rintro e w2 ⟨rfl, hc0⟩
  refine hK.out _ _ (⟨(hc0.cell (p := ⟨w.heap.size, 1, none⟩) hltA).trans k1, (hc0.cell (p := ⟨w.heap.size, 2, none⟩) hltA).trans k2, (hc0.cell (p := ⟨w1.heap.size, 0, none⟩) hltB).trans l0, (hc0.cell (p := ⟨w1.heap.size, 1, none⟩) hltB).trans l1, (hc0.cell (p := ⟨w1.heap.size, 2, none⟩) hltB).trans l2, (hc0.cell (p := ⟨w1.heap.size, 3, none⟩) hltB).trans l3, (hc0.cell (p := ⟨w1.heap.size, 4, none⟩) hltB).trans l4⟩) (fun hHeld => ?_)
  clear hK K
  (try simp only [Act.put, List.setIfInBounds_toArray, List.set_cons_zero, List.set_cons_succ, List.getElem_toArray, List.getElem_cons_zero, List.getElem_cons_succ])
  refine wpAnyH_take (i := 14) (oi := _) (v := ?_) rfl (by kernel_rfl) (by kernel_rfl) (by kernel_rfl) (fun _ _ _ h => h) (Or.inl ⟨by rfl, ?_⟩) (by assumption) ?_
  rotate_left
  · intro w hSw
    try dsimp only at hSw
    go_simp
    try with_reducible rfl
  (try simp only [Act.put, List.setIfInBounds_toArray, List.set_cons_zero, List.set_cons_succ, List.getElem_toArray, List.getElem_cons_zero, List.getElem_cons_succ])
  refine wpAnyH_take (i := 15) (oi := _) (v := ?_) rfl (by kernel_rfl) (by kernel_rfl) (by kernel_rfl) (fun _ _ _ h => h) (Or.inl ⟨by rfl, ?_⟩) (by assumption) ?_
  rotate_left
  · intro w hSw
    try dsimp only at hSw
    go_simp
    try with_reducible rfl
  (try simp only [Act.put, List.setIfInBounds_toArray, List.set_cons_zero, List.set_cons_succ, List.getElem_toArray, List.getElem_cons_zero, List.getElem_cons_succ])
  refine wpAnyH_take (i := 16) (oi := _) (v := ?_) rfl (by kernel_rfl) (by kernel_rfl) (by kernel_rfl) (fun _ _ _ h => h) (Or.inl ⟨by rfl, ?_⟩) (by assumption) ?_
  rotate_left
  · intro w hSw
    try dsimp only at hSw
    go_simp
    try with_reducible rfl
  (try simp only [Act.put, List.setIfInBounds_toArray, List.set_cons_zero, List.set_cons_succ, List.getElem_toArray, List.getElem_cons_zero, List.getElem_cons_succ])
  refine wpAnyH_take (i := 17) (oi := _) (v := ?_) rfl (by kernel_rfl) (by kernel_rfl) (by kernel_rfl) (fun _ _ _ h => h) (Or.inl ⟨by rfl, ?_⟩) (by assumption) ?_
  rotate_left
  · intro w hSw
    try dsimp only at hSw
    go_simp
    try with_reducible rfl
  (try simp only [Act.put, List.setIfInBounds_toArray, List.set_cons_zero, List.set_cons_succ, List.getElem_toArray, List.getElem_cons_zero, List.getElem_cons_succ])
  refine wpAnyH_ready (rs := [18]) (by kernel_rfl) (by simp) ?_
  refine AllReadyH.cons (o := _) rfl (fun K hK => ?_) AllReadyH.nil
  go_simp
  refine (HT.out _ (u16s_row ((hc0.block _ hltB).trans hl.out) rfl (bl_at x _ _ _ _ _ rfl rfl rfl rfl rfl))).mono ?_
  rintro e w3 ⟨rfl, hc2⟩
  have hc1 := hc0.trans (hc2.mono hc0.size)
  refine hK.out _ _ (⟨(hc1.cell (p := ⟨w.heap.size, 1, none⟩) hltA).trans k1, (hc1.cell (p := ⟨w.heap.size, 2, none⟩) hltA).trans k2, (hc1.cell (p := ⟨w1.heap.size, 0, none⟩) hltB).trans l0, (hc1.cell (p := ⟨w1.heap.size, 1, none⟩) hltB).trans l1, (hc1.cell (p := ⟨w1.heap.size, 2, none⟩) hltB).trans l2, (hc1.cell (p := ⟨w1.heap.size, 3, none⟩) hltB).trans l3, (hc1.cell (p := ⟨w1.heap.size, 4, none⟩) hltB).trans l4⟩) (fun hHeld => ?_)
  clear hK K
  (try simp only [Act.put, List.setIfInBounds_toArray, List.set_cons_zero, List.set_cons_succ, List.getElem_toArray, List.getElem_cons_zero, List.getElem_cons_succ])
  refine wpAnyH_take (i := 19) (oi := _) (v := ?_) rfl (by kernel_rfl) (by kernel_rfl) (by kernel_rfl) (fun _ _ _ h => h) (Or.inl ⟨by rfl, ?_⟩) (by assumption) ?_
  rotate_left
  · intro w hSw
    try dsimp only at hSw
    go_simp
    try with_reducible rfl
  (try simp only [Act.put, List.setIfInBounds_toArray, List.set_cons_zero, List.set_cons_succ, List.getElem_toArray, List.getElem_cons_zero, List.getElem_cons_succ])
  refine wpAnyH_take (i := 20) (oi := _) (v := ?_) rfl (by kernel_rfl) (by kernel_rfl) (by kernel_rfl) (fun _ _ _ h => h) (Or.inl ⟨by rfl, ?_⟩) (by assumption) ?_
  rotate_left
  · intro w hSw
    try dsimp only at hSw
    go_simp
    try with_reducible rfl
  (try simp only [Act.put, List.setIfInBounds_toArray, List.set_cons_zero, List.set_cons_succ, List.getElem_toArray, List.getElem_cons_zero, List.getElem_cons_succ])
  refine wpAnyH_take (i := 21) (oi := _) (v := ?_) rfl (by kernel_rfl) (by kernel_rfl) (by kernel_rfl) (fun _ _ _ h => h) (Or.inl ⟨by rfl, ?_⟩) (by assumption) ?_
  rotate_left
  · intro w hSw
    try dsimp only at hSw
    go_simp
    try with_reducible rfl
  (try simp only [Act.put, List.setIfInBounds_toArray, List.set_cons_zero, List.set_cons_succ, List.getElem_toArray, List.getElem_cons_zero, List.getElem_cons_succ])
  refine wpAnyH_done (by kernel_rfl) ?_ _
  go_wp2
  go_ret
  exact ⟨by rw [Hto.out]; rfl, hBB.drew.trans (hc1.mono hBB.size)⟩
set_option maxHeartbeats 4000000 in
theorem valid_dirs (x : Im) (hf : x.fits) (h : x.k = 2 ∧ x.z % 64 = 0) (w : World) (t : Bool) (ht : t = true ↔ x.n ≤ 200 ∧ x.z ≤ 2304 ∧ inside x.z x.bl ∧ once x.bl) :
    Calls Tryz.prog 151 #[x.v] w fun e w' => e = .returned (.bool t) ∧ Below w.heap.size w w' := by
  have Ht := Lib.hid ht
  clear ht
  have hk : ((x.k : Int) == 0) = false := by simp; omega
  have hk1 : ((x.k : Int) == 1) = false := by simp; omega
  have hk2 : ((x.k : Int) == 2) = true := by simp; omega
  have hm : ((x.z : Int) % 64 != 0) = false := by simp; omega
  have HN := Lib.hid fun W => named_any x W
  have Hh := Lib.hid h
  clear h
  go_enter Tryz.func151, Tryz.ntmps151
  go_wp2_with fail
  refine (HN.out _).mono ?_
  rintro e w1 ⟨rfl, hb1⟩
  have hx : w1.heap[w.heap.size]? = some (.cells #[.int .u8 x.k, w16 x.n, .int .u32 x.z, w16 x.d0, w16 x.d1, w16 x.d2, w16 x.d3, w16 x.i] 41 (0, 0)) := (hb1.block w.heap.size (by simp)).trans (heap_alloc_new _ _)
  have hlt1 : w.heap.size < w1.heap.size := row_lt' hx
  have hxn : w1.cell? ⟨w.heap.size, 1, none⟩ = some (w16 x.n) := cell_of_row _ _ 1 _ _ (0, 0) hx
  have hxz : w1.cell? ⟨w.heap.size, 2, none⟩ = some (.int .u32 x.z) := cell_of_row _ _ 2 _ _ (0, 0) hx
  have Hx := Lib.hid hx
  have Hb1 := Lib.hid hb1
  clear hx hb1
  go_wp2_with fail
  have hl := Lib.hid (heap_alloc_new w1 (.cells #[.int .u16 x.d0, .int .u16 x.d1, .int .u16 x.d2, .int .u16 x.d3, .int .u16 x.i] 170))
  have l0 := cell_of_row _ _ 0 _ _ (0, 0) hl.out
  have l1 := cell_of_row _ _ 1 _ _ (0, 0) hl.out
  have l2 := cell_of_row _ _ 2 _ _ (0, 0) hl.out
  have l3 := cell_of_row _ _ 3 _ _ (0, 0) hl.out
  have l4 := cell_of_row _ _ 4 _ _ (0, 0) hl.out
  simp only [List.getElem?_toArray, List.getElem?_cons_zero, List.getElem?_cons_succ] at l0 l1 l2 l3 l4
  have C := Lib.hid ((Below.refl w1.heap.size w1).alloc (Nat.le_refl _) (.cells #[.int .u16 x.d0, .int .u16 x.d1, .int .u16 x.d2, .int .u16 x.d3, .int .u16 x.i] 170))
  have k1 := (C.out.cell (p := ⟨w.heap.size, 1, none⟩) hlt1).trans hxn
  have k2 := (C.out.cell (p := ⟨w.heap.size, 2, none⟩) hlt1).trans hxz
  have hltA : w.heap.size < (w1.alloc (.cells #[.int .u16 x.d0, .int .u16 x.d1, .int .u16 x.d2, .int .u16 x.d3, .int .u16 x.i] 170)).heap.size := by simp; omega
  have hltB : w1.heap.size < (w1.alloc (.cells #[.int .u16 x.d0, .int .u16 x.d1, .int .u16 x.d2, .int .u16 x.d3, .int .u16 x.i] 170)).heap.size := by simp
  generalize w1.alloc (.cells #[.int .u16 x.d0, .int .u16 x.d1, .int .u16 x.d2, .int .u16 x.d3, .int .u16 x.i] 170) = W2 at *
  have hBB := (((Below.refl w.heap.size w).alloc (Nat.le_refl _) (.cells #[.int .u8 x.k, w16 x.n, .int .u32 x.z, w16 x.d0, w16 x.d1, w16 x.d2, w16 x.d3, w16 x.i] 41)).trans (Hb1.out.mono (by simp))).trans (C.out.mono (by omega))
  by_cases c1 : x.n ≤ 200
  case neg =>
    have q1 : decide ((x.n : Int) ≤ 200) = false := by simp; omega
    go_quiet (fail)
    go_wp2
    go_ret
    exact ⟨by rw [show t = false from Bool.eq_false_iff.2 fun e => c1 (Ht.out.1 e).1]; rfl, below_drewN hBB _⟩
  have q1 : decide ((x.n : Int) ≤ 200) = true := by simp; omega
  by_cases c2 : x.z ≤ 2304
  case neg =>
    have q2 : decide ((x.z : Int) ≤ 2304) = false := by simp; omega
    go_quiet (fail)
    go_wp2
    go_ret
    exact ⟨by rw [show t = false from Bool.eq_false_iff.2 fun e => c2 (Ht.out.1 e).2.1]; rfl, below_drewN hBB _⟩
  have q2 : decide ((x.z : Int) ≤ 2304) = true := by simp; omega
  have HW := Lib.hid fun W => iWithin_any x.d0 x.d1 x.d2 x.d3 x.i x.z W (by omega)
  have HE := Lib.hid (kept_inside x.z x.d0 x.d1 x.d2 x.d3 x.i)
  have HQ := fun W => eq_five_nat x.d0 x.d1 x.d2 x.d3 x.i (if 0 < pagesN x.z then x.d0 else 0) (if 1 < pagesN x.z then x.d1 else 0) (if 2 < pagesN x.z then x.d2 else 0) (if 3 < pagesN x.z then x.d3 else 0) (if 4 < pagesN x.z then x.i else 0) W
  unfold keptL at HW
  generalize (if 0 < pagesN x.z then x.d0 else 0) = e0 at *
  generalize (if 1 < pagesN x.z then x.d1 else 0) = e1 at *
  generalize (if 2 < pagesN x.z then x.d2 else 0) = e2 at *
  generalize (if 3 < pagesN x.z then x.d3 else 0) = e3 at *
  generalize (if 4 < pagesN x.z then x.i else 0) = e4 at *
  by_cases c3 : inside x.z x.bl
  case neg =>
    have hq3 : decide (x.d0 = e0 ∧ x.d1 = e1 ∧ x.d2 = e2 ∧ x.d3 = e3 ∧ x.i = e4) = false := decide_eq_false fun e => c3 (HE.out.1 e)
    simp only [hq3] at HQ
    refine wp_region_held_drew (S := (fun W => W.cell? ⟨w.heap.size, 1, none⟩ = some (w16 x.n) ∧ W.cell? ⟨w.heap.size, 2, none⟩ = some (.int .u32 x.z) ∧ W.cell? ⟨w1.heap.size, 0, none⟩ = some (w16 x.d0) ∧ W.cell? ⟨w1.heap.size, 1, none⟩ = some (w16 x.d1) ∧ W.cell? ⟨w1.heap.size, 2, none⟩ = some (w16 x.d2) ∧ W.cell? ⟨w1.heap.size, 3, none⟩ = some (w16 x.d3) ∧ W.cell? ⟨w1.heap.size, 4, none⟩ = some (w16 x.i))) (by kernel_rfl) (⟨k1, k2, l0, l1, l2, l3, l4⟩) (fun hHeld => ?_)
    refine wpAnyH_take (i := 0) (oi := _) (v := ?_) rfl (by kernel_rfl) (by kernel_rfl) (by kernel_rfl) (fun _ _ _ h => h) (Or.inl ⟨by rfl, ?_⟩) (by assumption) ?_
    rotate_left
    · intro w hSw
      try dsimp only at hSw
      go_simp
      try with_reducible rfl
    (try simp only [Act.put, List.setIfInBounds_toArray, List.set_cons_zero, List.set_cons_succ, List.getElem_toArray, List.getElem_cons_zero, List.getElem_cons_succ])
    refine wpAnyH_take (i := 1) (oi := _) (v := ?_) rfl (by kernel_rfl) (by kernel_rfl) (by kernel_rfl) (fun _ _ _ h => h) (Or.inl ⟨by rfl, ?_⟩) (by assumption) ?_
    rotate_left
    · intro w hSw
      try dsimp only at hSw
      go_simp
      try with_reducible rfl
    (try simp only [Act.put, List.setIfInBounds_toArray, List.set_cons_zero, List.set_cons_succ, List.getElem_toArray, List.getElem_cons_zero, List.getElem_cons_succ])
    refine wpAnyH_take (i := 2) (oi := _) (v := ?_) rfl (by kernel_rfl) (by kernel_rfl) (by kernel_rfl) (fun _ _ _ h => h) (Or.inl ⟨by rfl, ?_⟩) (by assumption) ?_
    rotate_left
    · intro w hSw
      try dsimp only at hSw
      go_simp
      try with_reducible rfl
    (try simp only [Act.put, List.setIfInBounds_toArray, List.set_cons_zero, List.set_cons_succ, List.getElem_toArray, List.getElem_cons_zero, List.getElem_cons_succ])
    refine wpAnyH_take (i := 3) (oi := _) (v := ?_) rfl (by kernel_rfl) (by kernel_rfl) (by kernel_rfl) (fun _ _ _ h => h) (Or.inl ⟨by rfl, ?_⟩) (by assumption) ?_
    rotate_left
    · intro w hSw
      try dsimp only at hSw
      go_simp
      try with_reducible rfl
    (try simp only [Act.put, List.setIfInBounds_toArray, List.set_cons_zero, List.set_cons_succ, List.getElem_toArray, List.getElem_cons_zero, List.getElem_cons_succ])
    refine wpAnyH_take (i := 4) (oi := _) (v := ?_) rfl (by kernel_rfl) (by kernel_rfl) (by kernel_rfl) (fun _ _ _ h => h) (Or.inl ⟨by rfl, ?_⟩) (by assumption) ?_
    rotate_left
    · intro w hSw
      try dsimp only at hSw
      go_simp
      try with_reducible rfl
    (try simp only [Act.put, List.setIfInBounds_toArray, List.set_cons_zero, List.set_cons_succ, List.getElem_toArray, List.getElem_cons_zero, List.getElem_cons_succ])
    refine wpAnyH_take (i := 5) (oi := _) (v := ?_) rfl (by kernel_rfl) (by kernel_rfl) (by kernel_rfl) (fun _ _ _ h => h) (Or.inl ⟨by rfl, ?_⟩) (by assumption) ?_
    rotate_left
    · intro w hSw
      try dsimp only at hSw
      go_simp
      try with_reducible rfl
    (try simp only [Act.put, List.setIfInBounds_toArray, List.set_cons_zero, List.set_cons_succ, List.getElem_toArray, List.getElem_cons_zero, List.getElem_cons_succ])
    refine wpAnyH_take (i := 6) (oi := _) (v := ?_) rfl (by kernel_rfl) (by kernel_rfl) (by kernel_rfl) (fun _ _ _ h => h) (Or.inl ⟨by rfl, ?_⟩) (by assumption) ?_
    rotate_left
    · intro w hSw
      try dsimp only at hSw
      go_simp
      try with_reducible rfl
    (try simp only [Act.put, List.setIfInBounds_toArray, List.set_cons_zero, List.set_cons_succ, List.getElem_toArray, List.getElem_cons_zero, List.getElem_cons_succ])
    refine wpAnyH_take (i := 7) (oi := _) (v := ?_) rfl (by kernel_rfl) (by kernel_rfl) (by kernel_rfl) (fun _ _ _ h => h) (Or.inl ⟨by rfl, ?_⟩) (by assumption) ?_
    rotate_left
    · intro w hSw
      try dsimp only at hSw
      go_simp
      try with_reducible rfl
    (try simp only [Act.put, List.setIfInBounds_toArray, List.set_cons_zero, List.set_cons_succ, List.getElem_toArray, List.getElem_cons_zero, List.getElem_cons_succ])
    refine wpAnyH_take (i := 8) (oi := _) (v := ?_) rfl (by kernel_rfl) (by kernel_rfl) (by kernel_rfl) (fun _ _ _ h => h) (Or.inl ⟨by rfl, ?_⟩) (by assumption) ?_
    rotate_left
    · intro w hSw
      try dsimp only at hSw
      go_simp
      try with_reducible rfl
    (try simp only [Act.put, List.setIfInBounds_toArray, List.set_cons_zero, List.set_cons_succ, List.getElem_toArray, List.getElem_cons_zero, List.getElem_cons_succ])
    refine wpAnyH_take (i := 9) (oi := _) (v := ?_) rfl (by kernel_rfl) (by kernel_rfl) (by kernel_rfl) (fun _ _ _ h => h) (Or.inl ⟨by rfl, ?_⟩) (by assumption) ?_
    rotate_left
    · intro w hSw
      try dsimp only at hSw
      go_simp
      try with_reducible rfl
    (try simp only [Act.put, List.setIfInBounds_toArray, List.set_cons_zero, List.set_cons_succ, List.getElem_toArray, List.getElem_cons_zero, List.getElem_cons_succ])
    refine wpAnyH_take (i := 10) (oi := _) (v := ?_) rfl (by kernel_rfl) (by kernel_rfl) (by kernel_rfl) (fun _ _ _ h => h) (Or.inl ⟨by rfl, ?_⟩) (by assumption) ?_
    rotate_left
    · intro w hSw
      try dsimp only at hSw
      go_simp
      try with_reducible rfl
    (try simp only [Act.put, List.setIfInBounds_toArray, List.set_cons_zero, List.set_cons_succ, List.getElem_toArray, List.getElem_cons_zero, List.getElem_cons_succ])
    refine wpAnyH_take (i := 11) (oi := _) (v := ?_) rfl (by kernel_rfl) (by kernel_rfl) (by kernel_rfl) (fun _ _ _ h => h) (Or.inl ⟨by rfl, ?_⟩) (by assumption) ?_
    rotate_left
    · intro w hSw
      try dsimp only at hSw
      go_simp
      try with_reducible rfl
    (try simp only [Act.put, List.setIfInBounds_toArray, List.set_cons_zero, List.set_cons_succ, List.getElem_toArray, List.getElem_cons_zero, List.getElem_cons_succ])
    refine wpAnyH_take (i := 12) (oi := _) (v := ?_) rfl (by kernel_rfl) (by kernel_rfl) (by kernel_rfl) (fun _ _ _ h => h) (Or.inl ⟨by rfl, ?_⟩) (by assumption) ?_
    rotate_left
    · intro w hSw
      try dsimp only at hSw
      go_simp
      try with_reducible rfl
    (try simp only [Act.put, List.setIfInBounds_toArray, List.set_cons_zero, List.set_cons_succ, List.getElem_toArray, List.getElem_cons_zero, List.getElem_cons_succ])
    refine wpAnyH_ready (rs := [13]) (by kernel_rfl) (by simp) ?_
    refine AllReadyH.cons (o := _) rfl (fun K hK => ?_) AllReadyH.nil
    go_simp
    refine (HW.out _).mono ?_
    rintro e w2 ⟨rfl, hc0⟩
    refine hK.out _ _ (⟨(hc0.cell (p := ⟨w.heap.size, 1, none⟩) hltA).trans k1, (hc0.cell (p := ⟨w.heap.size, 2, none⟩) hltA).trans k2, (hc0.cell (p := ⟨w1.heap.size, 0, none⟩) hltB).trans l0, (hc0.cell (p := ⟨w1.heap.size, 1, none⟩) hltB).trans l1, (hc0.cell (p := ⟨w1.heap.size, 2, none⟩) hltB).trans l2, (hc0.cell (p := ⟨w1.heap.size, 3, none⟩) hltB).trans l3, (hc0.cell (p := ⟨w1.heap.size, 4, none⟩) hltB).trans l4⟩) (fun hHeld => ?_)
    clear hK K
    (try simp only [Act.put, List.setIfInBounds_toArray, List.set_cons_zero, List.set_cons_succ, List.getElem_toArray, List.getElem_cons_zero, List.getElem_cons_succ])
    refine wpAnyH_take (i := 14) (oi := _) (v := ?_) rfl (by kernel_rfl) (by kernel_rfl) (by kernel_rfl) (fun _ _ _ h => h) (Or.inl ⟨by rfl, ?_⟩) (by assumption) ?_
    rotate_left
    · intro w hSw
      try dsimp only at hSw
      go_simp
      try with_reducible rfl
    (try simp only [Act.put, List.setIfInBounds_toArray, List.set_cons_zero, List.set_cons_succ, List.getElem_toArray, List.getElem_cons_zero, List.getElem_cons_succ])
    refine wpAnyH_take (i := 15) (oi := _) (v := ?_) rfl (by kernel_rfl) (by kernel_rfl) (by kernel_rfl) (fun _ _ _ h => h) (Or.inl ⟨by rfl, ?_⟩) (by assumption) ?_
    rotate_left
    · intro w hSw
      try dsimp only at hSw
      go_simp
      try with_reducible rfl
    (try simp only [Act.put, List.setIfInBounds_toArray, List.set_cons_zero, List.set_cons_succ, List.getElem_toArray, List.getElem_cons_zero, List.getElem_cons_succ])
    refine wpAnyH_take (i := 16) (oi := _) (v := ?_) rfl (by kernel_rfl) (by kernel_rfl) (by kernel_rfl) (fun _ _ _ h => h) (Or.inl ⟨by rfl, ?_⟩) (by assumption) ?_
    rotate_left
    · intro w hSw
      try dsimp only at hSw
      go_simp
      try with_reducible rfl
    (try simp only [Act.put, List.setIfInBounds_toArray, List.set_cons_zero, List.set_cons_succ, List.getElem_toArray, List.getElem_cons_zero, List.getElem_cons_succ])
    refine wpAnyH_take (i := 17) (oi := _) (v := undef) rfl (by kernel_rfl) (by kernel_rfl) (by kernel_rfl) (fun _ _ _ h => h) (Or.inr ⟨by rfl, rfl⟩) (by assumption) ?_
    (try simp only [Act.put, List.setIfInBounds_toArray, List.set_cons_zero, List.set_cons_succ, List.getElem_toArray, List.getElem_cons_zero, List.getElem_cons_succ])
    refine wpAnyH_take (i := 18) (oi := _) (v := undef) rfl (by kernel_rfl) (by kernel_rfl) (by kernel_rfl) (fun _ _ _ h => h) (Or.inr ⟨by rfl, rfl⟩) (by assumption) ?_
    (try simp only [Act.put, List.setIfInBounds_toArray, List.set_cons_zero, List.set_cons_succ, List.getElem_toArray, List.getElem_cons_zero, List.getElem_cons_succ])
    refine wpAnyH_take (i := 19) (oi := _) (v := undef) rfl (by kernel_rfl) (by kernel_rfl) (by kernel_rfl) (fun _ _ _ h => h) (Or.inr ⟨by rfl, rfl⟩) (by assumption) ?_
    (try simp only [Act.put, List.setIfInBounds_toArray, List.set_cons_zero, List.set_cons_succ, List.getElem_toArray, List.getElem_cons_zero, List.getElem_cons_succ])
    refine wpAnyH_take (i := 20) (oi := _) (v := ?_) rfl (by kernel_rfl) (by kernel_rfl) (by kernel_rfl) (fun _ _ _ h => h) (Or.inl ⟨by rfl, ?_⟩) (by assumption) ?_
    rotate_left
    · intro w hSw
      try dsimp only at hSw
      go_simp
      try with_reducible rfl
    (try simp only [Act.put, List.setIfInBounds_toArray, List.set_cons_zero, List.set_cons_succ, List.getElem_toArray, List.getElem_cons_zero, List.getElem_cons_succ])
    refine wpAnyH_take (i := 21) (oi := _) (v := ?_) rfl (by kernel_rfl) (by kernel_rfl) (by kernel_rfl) (fun _ _ _ h => h) (Or.inl ⟨by rfl, ?_⟩) (by assumption) ?_
    rotate_left
    · intro w hSw
      try dsimp only at hSw
      go_simp
      try with_reducible rfl
    (try simp only [Act.put, List.setIfInBounds_toArray, List.set_cons_zero, List.set_cons_succ, List.getElem_toArray, List.getElem_cons_zero, List.getElem_cons_succ])
    refine wpAnyH_done (by kernel_rfl) ?_ _
    go_wp2
    go_ret
    exact ⟨by rw [show t = false from Bool.eq_false_iff.2 fun e => c3 (Ht.out.1 e).2.2.1]; rfl, hBB.drew.trans (hc0.mono hBB.size)⟩
  have hq3 : decide (x.d0 = e0 ∧ x.d1 = e1 ∧ x.d2 = e2 ∧ x.d3 = e3 ∧ x.i = e4) = true := decide_eq_true (HE.out.2 c3)
  simp only [hq3] at HQ
  have HT := Lib.hid fun W (h : U16s W (.slice (some ⟨w1.heap.size, 0, none⟩) 5 5) x.bl) => twice_any x.bl _ W h (bl_lt hf) (by simp [Im.bl])
  have hto : t = !(decide (¬ once x.bl)) := by
    by_cases ho : once x.bl
    · simp [ho, Ht.out.2 ⟨c1, c2, c3, ho⟩]
    · simp [ho, Bool.eq_false_iff.2 fun e => ho (Ht.out.1 e).2.2.2]
  have Hto := Lib.hid hto
  clear hto
  generalize decide (¬ once x.bl) = o at *
  refine wp_region_held_drew (S := (fun W => W.cell? ⟨w.heap.size, 1, none⟩ = some (w16 x.n) ∧ W.cell? ⟨w.heap.size, 2, none⟩ = some (.int .u32 x.z) ∧ W.cell? ⟨w1.heap.size, 0, none⟩ = some (w16 x.d0) ∧ W.cell? ⟨w1.heap.size, 1, none⟩ = some (w16 x.d1) ∧ W.cell? ⟨w1.heap.size, 2, none⟩ = some (w16 x.d2) ∧ W.cell? ⟨w1.heap.size, 3, none⟩ = some (w16 x.d3) ∧ W.cell? ⟨w1.heap.size, 4, none⟩ = some (w16 x.i))) (by kernel_rfl) (⟨k1, k2, l0, l1, l2, l3, l4⟩) (fun hHeld => ?_)
  refine wpAnyH_take (i := 0) (oi := _) (v := ?_) rfl (by kernel_rfl) (by kernel_rfl) (by kernel_rfl) (fun _ _ _ h => h) (Or.inl ⟨by rfl, ?_⟩) (by assumption) ?_
  rotate_left
  · intro w hSw
    try dsimp only at hSw
    go_simp
    try with_reducible rfl
  (try simp only [Act.put, List.setIfInBounds_toArray, List.set_cons_zero, List.set_cons_succ, List.getElem_toArray, List.getElem_cons_zero, List.getElem_cons_succ])
  refine wpAnyH_take (i := 1) (oi := _) (v := ?_) rfl (by kernel_rfl) (by kernel_rfl) (by kernel_rfl) (fun _ _ _ h => h) (Or.inl ⟨by rfl, ?_⟩) (by assumption) ?_
  rotate_left
  · intro w hSw
    try dsimp only at hSw
    go_simp
    try with_reducible rfl
  (try simp only [Act.put, List.setIfInBounds_toArray, List.set_cons_zero, List.set_cons_succ, List.getElem_toArray, List.getElem_cons_zero, List.getElem_cons_succ])
  refine wpAnyH_take (i := 2) (oi := _) (v := ?_) rfl (by kernel_rfl) (by kernel_rfl) (by kernel_rfl) (fun _ _ _ h => h) (Or.inl ⟨by rfl, ?_⟩) (by assumption) ?_
  rotate_left
  · intro w hSw
    try dsimp only at hSw
    go_simp
    try with_reducible rfl
  (try simp only [Act.put, List.setIfInBounds_toArray, List.set_cons_zero, List.set_cons_succ, List.getElem_toArray, List.getElem_cons_zero, List.getElem_cons_succ])
  refine wpAnyH_take (i := 3) (oi := _) (v := ?_) rfl (by kernel_rfl) (by kernel_rfl) (by kernel_rfl) (fun _ _ _ h => h) (Or.inl ⟨by rfl, ?_⟩) (by assumption) ?_
  rotate_left
  · intro w hSw
    try dsimp only at hSw
    go_simp
    try with_reducible rfl
  (try simp only [Act.put, List.setIfInBounds_toArray, List.set_cons_zero, List.set_cons_succ, List.getElem_toArray, List.getElem_cons_zero, List.getElem_cons_succ])
  refine wpAnyH_take (i := 4) (oi := _) (v := ?_) rfl (by kernel_rfl) (by kernel_rfl) (by kernel_rfl) (fun _ _ _ h => h) (Or.inl ⟨by rfl, ?_⟩) (by assumption) ?_
  rotate_left
  · intro w hSw
    try dsimp only at hSw
    go_simp
    try with_reducible rfl
  (try simp only [Act.put, List.setIfInBounds_toArray, List.set_cons_zero, List.set_cons_succ, List.getElem_toArray, List.getElem_cons_zero, List.getElem_cons_succ])
  refine wpAnyH_take (i := 5) (oi := _) (v := ?_) rfl (by kernel_rfl) (by kernel_rfl) (by kernel_rfl) (fun _ _ _ h => h) (Or.inl ⟨by rfl, ?_⟩) (by assumption) ?_
  rotate_left
  · intro w hSw
    try dsimp only at hSw
    go_simp
    try with_reducible rfl
  (try simp only [Act.put, List.setIfInBounds_toArray, List.set_cons_zero, List.set_cons_succ, List.getElem_toArray, List.getElem_cons_zero, List.getElem_cons_succ])
  refine wpAnyH_take (i := 6) (oi := _) (v := ?_) rfl (by kernel_rfl) (by kernel_rfl) (by kernel_rfl) (fun _ _ _ h => h) (Or.inl ⟨by rfl, ?_⟩) (by assumption) ?_
  rotate_left
  · intro w hSw
    try dsimp only at hSw
    go_simp
    try with_reducible rfl
  (try simp only [Act.put, List.setIfInBounds_toArray, List.set_cons_zero, List.set_cons_succ, List.getElem_toArray, List.getElem_cons_zero, List.getElem_cons_succ])
  refine wpAnyH_take (i := 7) (oi := _) (v := ?_) rfl (by kernel_rfl) (by kernel_rfl) (by kernel_rfl) (fun _ _ _ h => h) (Or.inl ⟨by rfl, ?_⟩) (by assumption) ?_
  rotate_left
  · intro w hSw
    try dsimp only at hSw
    go_simp
    try with_reducible rfl
  (try simp only [Act.put, List.setIfInBounds_toArray, List.set_cons_zero, List.set_cons_succ, List.getElem_toArray, List.getElem_cons_zero, List.getElem_cons_succ])
  refine wpAnyH_take (i := 8) (oi := _) (v := ?_) rfl (by kernel_rfl) (by kernel_rfl) (by kernel_rfl) (fun _ _ _ h => h) (Or.inl ⟨by rfl, ?_⟩) (by assumption) ?_
  rotate_left
  · intro w hSw
    try dsimp only at hSw
    go_simp
    try with_reducible rfl
  (try simp only [Act.put, List.setIfInBounds_toArray, List.set_cons_zero, List.set_cons_succ, List.getElem_toArray, List.getElem_cons_zero, List.getElem_cons_succ])
  refine wpAnyH_take (i := 9) (oi := _) (v := ?_) rfl (by kernel_rfl) (by kernel_rfl) (by kernel_rfl) (fun _ _ _ h => h) (Or.inl ⟨by rfl, ?_⟩) (by assumption) ?_
  rotate_left
  · intro w hSw
    try dsimp only at hSw
    go_simp
    try with_reducible rfl
  (try simp only [Act.put, List.setIfInBounds_toArray, List.set_cons_zero, List.set_cons_succ, List.getElem_toArray, List.getElem_cons_zero, List.getElem_cons_succ])
  refine wpAnyH_take (i := 10) (oi := _) (v := ?_) rfl (by kernel_rfl) (by kernel_rfl) (by kernel_rfl) (fun _ _ _ h => h) (Or.inl ⟨by rfl, ?_⟩) (by assumption) ?_
  rotate_left
  · intro w hSw
    try dsimp only at hSw
    go_simp
    try with_reducible rfl
  (try simp only [Act.put, List.setIfInBounds_toArray, List.set_cons_zero, List.set_cons_succ, List.getElem_toArray, List.getElem_cons_zero, List.getElem_cons_succ])
  refine wpAnyH_take (i := 11) (oi := _) (v := ?_) rfl (by kernel_rfl) (by kernel_rfl) (by kernel_rfl) (fun _ _ _ h => h) (Or.inl ⟨by rfl, ?_⟩) (by assumption) ?_
  rotate_left
  · intro w hSw
    try dsimp only at hSw
    go_simp
    try with_reducible rfl
  (try simp only [Act.put, List.setIfInBounds_toArray, List.set_cons_zero, List.set_cons_succ, List.getElem_toArray, List.getElem_cons_zero, List.getElem_cons_succ])
  refine wpAnyH_take (i := 12) (oi := _) (v := ?_) rfl (by kernel_rfl) (by kernel_rfl) (by kernel_rfl) (fun _ _ _ h => h) (Or.inl ⟨by rfl, ?_⟩) (by assumption) ?_
  rotate_left
  · intro w hSw
    try dsimp only at hSw
    go_simp
    try with_reducible rfl
  (try simp only [Act.put, List.setIfInBounds_toArray, List.set_cons_zero, List.set_cons_succ, List.getElem_toArray, List.getElem_cons_zero, List.getElem_cons_succ])
  refine wpAnyH_ready (rs := [13]) (by kernel_rfl) (by simp) ?_
  refine AllReadyH.cons (o := _) rfl (fun K hK => ?_) AllReadyH.nil
  go_simp
  refine (HW.out _).mono ?_
  rintro e w2 ⟨rfl, hc0⟩
  refine hK.out _ _ (⟨(hc0.cell (p := ⟨w.heap.size, 1, none⟩) hltA).trans k1, (hc0.cell (p := ⟨w.heap.size, 2, none⟩) hltA).trans k2, (hc0.cell (p := ⟨w1.heap.size, 0, none⟩) hltB).trans l0, (hc0.cell (p := ⟨w1.heap.size, 1, none⟩) hltB).trans l1, (hc0.cell (p := ⟨w1.heap.size, 2, none⟩) hltB).trans l2, (hc0.cell (p := ⟨w1.heap.size, 3, none⟩) hltB).trans l3, (hc0.cell (p := ⟨w1.heap.size, 4, none⟩) hltB).trans l4⟩) (fun hHeld => ?_)
  clear hK K
  (try simp only [Act.put, List.setIfInBounds_toArray, List.set_cons_zero, List.set_cons_succ, List.getElem_toArray, List.getElem_cons_zero, List.getElem_cons_succ])
  refine wpAnyH_take (i := 14) (oi := _) (v := ?_) rfl (by kernel_rfl) (by kernel_rfl) (by kernel_rfl) (fun _ _ _ h => h) (Or.inl ⟨by rfl, ?_⟩) (by assumption) ?_
  rotate_left
  · intro w hSw
    try dsimp only at hSw
    go_simp
    try with_reducible rfl
  (try simp only [Act.put, List.setIfInBounds_toArray, List.set_cons_zero, List.set_cons_succ, List.getElem_toArray, List.getElem_cons_zero, List.getElem_cons_succ])
  refine wpAnyH_take (i := 15) (oi := _) (v := ?_) rfl (by kernel_rfl) (by kernel_rfl) (by kernel_rfl) (fun _ _ _ h => h) (Or.inl ⟨by rfl, ?_⟩) (by assumption) ?_
  rotate_left
  · intro w hSw
    try dsimp only at hSw
    go_simp
    try with_reducible rfl
  (try simp only [Act.put, List.setIfInBounds_toArray, List.set_cons_zero, List.set_cons_succ, List.getElem_toArray, List.getElem_cons_zero, List.getElem_cons_succ])
  refine wpAnyH_take (i := 16) (oi := _) (v := ?_) rfl (by kernel_rfl) (by kernel_rfl) (by kernel_rfl) (fun _ _ _ h => h) (Or.inl ⟨by rfl, ?_⟩) (by assumption) ?_
  rotate_left
  · intro w hSw
    try dsimp only at hSw
    go_simp
    try with_reducible rfl
  (try simp only [Act.put, List.setIfInBounds_toArray, List.set_cons_zero, List.set_cons_succ, List.getElem_toArray, List.getElem_cons_zero, List.getElem_cons_succ])
  refine wpAnyH_take (i := 17) (oi := _) (v := ?_) rfl (by kernel_rfl) (by kernel_rfl) (by kernel_rfl) (fun _ _ _ h => h) (Or.inl ⟨by rfl, ?_⟩) (by assumption) ?_
  rotate_left
  · intro w hSw
    try dsimp only at hSw
    go_simp
    try with_reducible rfl
  (try simp only [Act.put, List.setIfInBounds_toArray, List.set_cons_zero, List.set_cons_succ, List.getElem_toArray, List.getElem_cons_zero, List.getElem_cons_succ])
  refine wpAnyH_ready (rs := [18]) (by kernel_rfl) (by simp) ?_
  refine AllReadyH.cons (o := _) rfl (fun K hK => ?_) AllReadyH.nil
  go_simp
  refine (HT.out _ (u16s_row ((hc0.block _ hltB).trans hl.out) rfl (bl_at x _ _ _ _ _ rfl rfl rfl rfl rfl))).mono ?_
  rintro e w3 ⟨rfl, hc2⟩
  have hc1 := hc0.trans (hc2.mono hc0.size)
  refine hK.out _ _ (⟨(hc1.cell (p := ⟨w.heap.size, 1, none⟩) hltA).trans k1, (hc1.cell (p := ⟨w.heap.size, 2, none⟩) hltA).trans k2, (hc1.cell (p := ⟨w1.heap.size, 0, none⟩) hltB).trans l0, (hc1.cell (p := ⟨w1.heap.size, 1, none⟩) hltB).trans l1, (hc1.cell (p := ⟨w1.heap.size, 2, none⟩) hltB).trans l2, (hc1.cell (p := ⟨w1.heap.size, 3, none⟩) hltB).trans l3, (hc1.cell (p := ⟨w1.heap.size, 4, none⟩) hltB).trans l4⟩) (fun hHeld => ?_)
  clear hK K
  (try simp only [Act.put, List.setIfInBounds_toArray, List.set_cons_zero, List.set_cons_succ, List.getElem_toArray, List.getElem_cons_zero, List.getElem_cons_succ])
  refine wpAnyH_take (i := 19) (oi := _) (v := ?_) rfl (by kernel_rfl) (by kernel_rfl) (by kernel_rfl) (fun _ _ _ h => h) (Or.inl ⟨by rfl, ?_⟩) (by assumption) ?_
  rotate_left
  · intro w hSw
    try dsimp only at hSw
    go_simp
    try with_reducible rfl
  (try simp only [Act.put, List.setIfInBounds_toArray, List.set_cons_zero, List.set_cons_succ, List.getElem_toArray, List.getElem_cons_zero, List.getElem_cons_succ])
  refine wpAnyH_take (i := 20) (oi := _) (v := ?_) rfl (by kernel_rfl) (by kernel_rfl) (by kernel_rfl) (fun _ _ _ h => h) (Or.inl ⟨by rfl, ?_⟩) (by assumption) ?_
  rotate_left
  · intro w hSw
    try dsimp only at hSw
    go_simp
    try with_reducible rfl
  (try simp only [Act.put, List.setIfInBounds_toArray, List.set_cons_zero, List.set_cons_succ, List.getElem_toArray, List.getElem_cons_zero, List.getElem_cons_succ])
  refine wpAnyH_take (i := 21) (oi := _) (v := ?_) rfl (by kernel_rfl) (by kernel_rfl) (by kernel_rfl) (fun _ _ _ h => h) (Or.inl ⟨by rfl, ?_⟩) (by assumption) ?_
  rotate_left
  · intro w hSw
    try dsimp only at hSw
    go_simp
    try with_reducible rfl
  (try simp only [Act.put, List.setIfInBounds_toArray, List.set_cons_zero, List.set_cons_succ, List.getElem_toArray, List.getElem_cons_zero, List.getElem_cons_succ])
  refine wpAnyH_done (by kernel_rfl) ?_ _
  go_wp2
  go_ret
  exact ⟨by rw [Hto.out]; rfl, hBB.drew.trans (hc1.mono hBB.size)⟩
theorem valid_any (x : Im) (hf : x.fits) (w : World) :
    Calls Tryz.prog 151 #[x.v] w fun e w' => e = .returned (.bool (decide x.may)) ∧ Below w.heap.size w w' := by
  by_cases h0 : x.k = 0
  · exact valid_zero x h0 w
  · by_cases h1 : x.k = 1
    · exact valid_file x hf h1 w _ (by rw [decide_eq_true_eq]; exact may_one (.inl h1))
    · by_cases h2 : x.k = 2
      · by_cases h3 : x.z % 64 = 0
        · exact valid_dirs x hf ⟨h2, h3⟩ w _ (by rw [decide_eq_true_eq]; exact may_one (.inr ⟨h2, h3⟩))
        · exact valid_dir x h2 h3 hf.2.2.1 w
      · exact valid_more x (by omega) w
end Go.Proofs.YtnfiapjdkjbdhaaGreat
