/- Layer 7 (inode): the chapter's example, as the statements ask it. -/
import Derived.Test.YtpipjjngffajlaaInode9
namespace Go.Proofs.Ytpipjjngffajlaa
open Go.RowKit
set_option linter.unusedVariables false
set_option linter.unusedSimpArgs false
set_option maxRecDepth 10000
/-- The chapter's inode. -/
def oneI : Im := ⟨1, 1, 65, 7, 9, 0, 0, 0⟩
abbrev oneV : Value := .agg #[.int .u8 1, .int .u16 1, .int .u32 65, .int .u16 7, .int .u16 9, .int .u16 0, .int .u16 0, .int .u16 0]
def twoI : Im := ⟨1, 1, 65, 7, 7, 0, 0, 0⟩
theorem one_fits : oneI.fits := by simp [Im.fits, oneI]
theorem two_fits : twoI.fits := by simp [Im.fits, twoI]
theorem one_may : oneI.may := by
  have : inside oneI.z oneI.bl := (inside_five 65 7 9 0 0 0).2 (by omega)
  have h2 : once oneI.bl := by decide
  unfold Im.may
  rw [if_neg (by decide)]
  exact ⟨by decide, by decide, by decide, by decide, this, h2⟩
theorem two_not : ¬ twoI.may := by
  unfold Im.may
  rw [if_neg (by decide)]
  rintro ⟨_, _, _, _, _, h⟩
  exact absurd h (by decide)
def oneL : List UInt8 := [1, 0, 1, 0, 65, 0, 0, 0, 7, 0, 9, 0, 0, 0, 0, 0, 0, 0, 0, 0, 0, 0, 0, 0, 0, 0, 0, 0, 0, 0, 0, 0]
theorem one_put : oneI.putL = oneL := by decide
set_option maxHeartbeats 1000000 in
theorem one_any (w : World) : Calls Try.prog 21 #[] w fun e w' => e = .returned oneV ∧ Below w.heap.size w w' := by
  go_enter Try.func21, Try.ntmps21
  go_wp2
  refine bodyPost_ret (v := oneV) ?_ rfl ⟨rfl, (Below.refl _ _).alloc (Nat.le_refl _) _⟩
  exact results_cell_row rfl _ _ w.heap.size 26 _ (0, 0) _ rfl (heap_alloc_new _ _) Try.underlying26 rfl (by kernel_rfl)
theorem keep_row {W W' : World} {g : Nat} {o : Obj} (h : W.heap[g]? = some o) (hb : Below W.heap.size W W') : W'.heap[g]? = some o := (hb.block g (row_lt' h)).trans h
theorem keep_below' {w W W' : World} (h : Below w.heap.size w W) (hb : Below W.heap.size W W') : Below w.heap.size w W' := h.trans (hb.mono h.size)
theorem row_alloc {W : World} {g : Nat} {p : Obj} (h : W.heap[g]? = some p) (o : Obj) : (W.alloc o).heap[g]? = some p := by
  rw [heap_alloc_old _ _ (row_lt' h)]; exact h
theorem icells {W : World} {g : Nat} {t : TypeId} {a b c d e f i j : Value} (hg : W.heap[g]? = some (.cells #[a, b, c, d, e, f, i, j] t (0, 0))) :
    W.cell? ⟨g, 0, none⟩ = some a ∧ W.cell? ⟨g, 1, none⟩ = some b ∧ W.cell? ⟨g, 2, none⟩ = some c ∧ W.cell? ⟨g, 3, none⟩ = some d ∧ W.cell? ⟨g, 4, none⟩ = some e ∧ W.cell? ⟨g, 5, none⟩ = some f ∧ W.cell? ⟨g, 6, none⟩ = some i ∧ W.cell? ⟨g, 7, none⟩ = some j :=
  ⟨cell_of_row W g 0 _ _ (0, 0) hg, cell_of_row W g 1 _ _ (0, 0) hg, cell_of_row W g 2 _ _ (0, 0) hg, cell_of_row W g 3 _ _ (0, 0) hg, cell_of_row W g 4 _ _ (0, 0) hg, cell_of_row W g 5 _ _ (0, 0) hg, cell_of_row W g 6 _ _ (0, 0) hg, cell_of_row W g 7 _ _ (0, 0) hg⟩
abbrev twoV : Value := .agg #[.int .u8 1, .int .u16 1, .int .u32 65, .int .u16 7, .int .u16 7, .int .u16 0, .int .u16 0, .int .u16 0]
def fiveL : List UInt8 := 5 :: 0 :: List.replicate 62 0
theorem five_tell : tellL [5] = fiveL := by decide
theorem get_one : getL oneL = some oneI := by rw [← one_put]; exact getL_put one_fits one_may
set_option maxRecDepth 100000 in
set_option maxHeartbeats 4000000 in
theorem alive_any (w : World) : Calls Try.prog 7 #[] w fun e w' => e = .returned (.bool true) ∧ Below w.heap.size w w' := by
  have KO := Lib.hid fun W => one_any W
  have KP : Hid (∀ W, Calls Try.prog 8 #[oneV] W fun e w' => e = .returned (.tuple #[str oneL, .int .i64 0]) ∧ Below W.heap.size W w') := Lib.hid fun W => by
    have := put_ok oneI one_fits one_may W
    rwa [one_put] at this
  have KG : Hid (∀ W, Calls Try.prog 9 #[str oneL] W fun e w' => e = .returned (.tuple #[oneV, .int .i64 0]) ∧ Below W.heap.size W w') := Lib.hid fun W => by
    have := iget_any oneL W (by decide)
    rw [get_one] at this
    exact this
  have KN : Hid (∀ W, Calls Try.prog 9 #[.string ⟨#[]⟩] W fun e w' => e = .returned (.tuple #[.agg #[.int .u8 0, .int .u16 0, .int .u32 0, .int .u16 0, .int .u16 0, .int .u16 0, .int .u16 0, .int .u16 0], .int .i64 6]) ∧ Below W.heap.size W w') := Lib.hid fun W => iget_any [] W (by decide)
  have KT : Hid (∀ W v, U16s W v [5] → Calls Try.prog 11 #[v] W fun e w' => e = .returned (.tuple #[str fiveL, .int .i64 0]) ∧ Below W.heap.size W w') := Lib.hid fun W v h => by
    have := tell_ok [5] v W h (by simp) (by simp)
    rwa [five_tell] at this
  have KC : Hid (∀ W, Calls Try.prog 19 #[twoV] W fun e w' => e = .returned (.int .i64 2) ∧ Below W.heap.size W w') := Lib.hid fun W => check_any twoI two_fits 2 (by rw [if_neg two_not]) W
  have KS : Hid (∀ W, Calls Try.prog 16 #[.int .u32 65] W fun e w' => e = .returned (.int .i64 2) ∧ Below W.heap.size W w') := Lib.hid fun W => by
    refine (pages_any 65 W (by decide)).mono ?_
    rintro e w' ⟨rfl, rfl⟩
    exact ⟨rfl, Below.refl _ _⟩
  have hl : oneL.length = 32 := rfl
  have ht : oneL.take 12 = [1, 0, 1, 0, 65, 0, 0, 0, 7, 0, 9, 0] := rfl
  have hl5 : fiveL.length = 64 := rfl
  have ht5 : fiveL.take 2 = [5, 0] := rfl
  generalize oneL = L1 at *
  generalize fiveL = L5 at *
  go_enter Try.func7, Try.ntmps7
  go_wp2_with fail
  with_reducible refine (KO.out _).mono ?_
  rintro e w1 ⟨rfl, hb⟩
  have HD := Lib.hid (hb)
  clear hb
  go_wp2_with fail
  with_reducible refine (KP.out _).mono ?_
  rintro e w2 ⟨rfl, hb⟩
  have HD := Lib.hid (keep_below' HD.out hb)
  clear hb
  go_wp2_with fail
  with_reducible refine (KG.out _).mono ?_
  rintro e w3 ⟨rfl, hb⟩
  have HD := Lib.hid (keep_below' HD.out hb)
  clear hb
  go_wp2_with fail
  have HX := Lib.hid (heap_alloc_new w3 (.cells #[.int .u8 1, .int .u16 1, .int .u32 65, .int .u16 7, .int .u16 9, .int .u16 0, .int .u16 0, .int .u16 0] 26))
  have HD := Lib.hid (HD.out.alloc HD.out.size (.cells #[.int .u8 1, .int .u16 1, .int .u32 65, .int .u16 7, .int .u16 9, .int .u16 0, .int .u16 0, .int .u16 0] 26))
  with_reducible refine (KO.out _).mono ?_
  rintro e w4 ⟨rfl, hb⟩
  have HD := Lib.hid (keep_below' HD.out hb)
  have HX := Lib.hid (keep_row HX.out hb)
  clear hb
  go_wp2_with fail
  have HY := Lib.hid (heap_alloc_new w4 (.cells #[.int .u8 1, .int .u16 1, .int .u32 65, .int .u16 7, .int .u16 7, .int .u16 0, .int .u16 0, .int .u16 0] 26))
  have HX := Lib.hid (row_alloc HX.out (.cells #[.int .u8 1, .int .u16 1, .int .u32 65, .int .u16 7, .int .u16 7, .int .u16 0, .int .u16 0, .int .u16 0] 26))
  have HD := Lib.hid (HD.out.alloc HD.out.size (.cells #[.int .u8 1, .int .u16 1, .int .u32 65, .int .u16 7, .int .u16 7, .int .u16 0, .int .u16 0, .int .u16 0] 26))
  with_reducible refine (KN.out _).mono ?_
  rintro e w5 ⟨rfl, hb⟩
  have HD := Lib.hid (keep_below' HD.out hb)
  have HX := Lib.hid (keep_row HX.out hb)
  have HY := Lib.hid (keep_row HY.out hb)
  clear hb
  go_wp2_with fail
  have HX := Lib.hid (row_alloc (row_alloc HX.out (.cells #[.int .u8 0, .int .u16 0, .int .u32 0, .int .u16 0, .int .u16 0, .int .u16 0, .int .u16 0, .int .u16 0] 26)) (.cells #[.int .u16 5] 22))
  have HY := Lib.hid (row_alloc (row_alloc HY.out (.cells #[.int .u8 0, .int .u16 0, .int .u32 0, .int .u16 0, .int .u16 0, .int .u16 0, .int .u16 0, .int .u16 0] 26)) (.cells #[.int .u16 5] 22))
  have HD := Lib.hid ((HD.out.alloc HD.out.size (.cells #[.int .u8 0, .int .u16 0, .int .u32 0, .int .u16 0, .int .u16 0, .int .u16 0, .int .u16 0, .int .u16 0] 26)).alloc (Nat.le_trans HD.out.size (by simp)) (.cells #[.int .u16 5] 22))
  with_reducible refine (KT.out _ _ ?_).mono ?_
  · exact u16s_row (heap_new _ _ _ (by simp)) rfl (one_at 5 _)
  rintro e w6 ⟨rfl, hb⟩
  have HD := Lib.hid (keep_below' HD.out hb)
  have HX := Lib.hid (keep_row HX.out hb)
  have HY := Lib.hid (keep_row HY.out hb)
  clear hb
  go_wp2_with fail
  have C := Lib.hid (Below.refl w6.heap.size w6).drew
  have hx := icells HX.out
  have hy := icells HY.out
  have hone : ∀ W, (Op.equalIn 10000 26 oneV oneV).run Try.prog W = .ok true W := fun W => by
    have := eq_im oneI oneI W
    rwa [decide_eq_true rfl] at this
  clear KP KG KN KT
  go_region_held3 (fun W => (W.cell? ⟨w3.heap.size, 0, none⟩ = some (.int .u8 1) ∧ W.cell? ⟨w3.heap.size, 1, none⟩ = some (.int .u16 1) ∧ W.cell? ⟨w3.heap.size, 2, none⟩ = some (.int .u32 65) ∧ W.cell? ⟨w3.heap.size, 3, none⟩ = some (.int .u16 7) ∧ W.cell? ⟨w3.heap.size, 4, none⟩ = some (.int .u16 9) ∧ W.cell? ⟨w3.heap.size, 5, none⟩ = some (.int .u16 0) ∧ W.cell? ⟨w3.heap.size, 6, none⟩ = some (.int .u16 0) ∧ W.cell? ⟨w3.heap.size, 7, none⟩ = some (.int .u16 0)) ∧ (W.cell? ⟨w4.heap.size, 0, none⟩ = some (.int .u8 1) ∧ W.cell? ⟨w4.heap.size, 1, none⟩ = some (.int .u16 1) ∧ W.cell? ⟨w4.heap.size, 2, none⟩ = some (.int .u32 65) ∧ W.cell? ⟨w4.heap.size, 3, none⟩ = some (.int .u16 7) ∧ W.cell? ⟨w4.heap.size, 4, none⟩ = some (.int .u16 7) ∧ W.cell? ⟨w4.heap.size, 5, none⟩ = some (.int .u16 0) ∧ W.cell? ⟨w4.heap.size, 6, none⟩ = some (.int .u16 0) ∧ W.cell? ⟨w4.heap.size, 7, none⟩ = some (.int .u16 0)))
    (exact ⟨hx, hy⟩)
    (first | (go_at_call 21; ((with_reducible refine (KO.out _).mono ?_); rintro e w8 ⟨rfl, hb⟩; have C := Lib.hid (C.out.trans (hb.mono C.out.size)); have hx := icells (keep_row HX.out C.out); have hy := icells (keep_row HY.out C.out))) | (go_at_call 19; ((with_reducible refine (KC.out _).mono ?_); rintro e w8 ⟨rfl, hb⟩; have C := Lib.hid (C.out.trans (hb.mono C.out.size)); have hx := icells (keep_row HX.out C.out); have hy := icells (keep_row HY.out C.out))) | (go_at_call 16; ((with_reducible refine (KS.out _).mono ?_); rintro e w8 ⟨rfl, hb⟩; have C := Lib.hid (C.out.trans (hb.mono C.out.size)); have hx := icells (keep_row HX.out C.out); have hy := icells (keep_row HY.out C.out))))
  go_wp2_with fail
  go_ret
  exact ⟨rfl, HD.out.trans (C.out.mono HD.out.size)⟩
end Go.Proofs.Ytpipjjngffajlaa
