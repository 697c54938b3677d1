/- Layer 5: the chapter's example, as the statements ask it. -/
import Derived.Test.YtoighnnjadmoiaaGeo6
namespace Go.Proofs.Ytoighnnjadmoiaa
open Go.RowKit
set_option linter.unusedVariables false
set_option linter.unusedSimpArgs false
set_option maxRecDepth 10000
/-- The chapter's geometry. -/
def smallG : Gm := ⟨8, 16, 40⟩
theorem smallG_ok : smallG.ok := by decide
abbrev smallV : Value := .agg #[.int .i64 8, .int .i64 16, .int .i64 40]
set_option maxHeartbeats 400000 in
theorem small_any (w : World) : Calls Try.prog 24 #[] w fun e w' => e = .returned smallV ∧ Below w.heap.size w w' := by
  go_enter Try.func24, Try.ntmps24
  go_wp2
  refine bodyPost_ret (v := smallV) ?_ rfl ⟨rfl, (Below.refl _ _).alloc (Nat.le_refl _) _⟩
  exact results_cell_row rfl _ _ w.heap.size 23 _ (0, 0) _ rfl (heap_alloc_new _ _) Try.underlying23 rfl (by kernel_rfl)
/-- Where the parts of the chapter's disk begin. -/
def fromC : List Value := [.int .i64 0, .int .i64 1, .int .i64 41, .int .i64 42, .int .i64 43, .int .i64 47]
theorem fromC_at (k : Nat) (hk : k < 6) : fromC[k]? = some (.int .i64 (smallG.off k : Int)) := by
  match k, hk with
  | 0, _ | 1, _ | 2, _ | 3, _ | 4, _ | 5, _ => rfl
theorem gcells {W W' : World} {g : Nat} {a b c : Value} (h : W'.heap[g]? = W.heap[g]?) (hg : W.heap[g]? = some (.cells #[a, b, c] 23 (0, 0))) :
    W'.cell? ⟨g, 0, none⟩ = some a ∧ W'.cell? ⟨g, 1, none⟩ = some b ∧ W'.cell? ⟨g, 2, none⟩ = some c := by
  have h1 := h.trans hg
  exact ⟨cell_of_row W' g 0 _ _ (0, 0) h1, cell_of_row W' g 1 _ _ (0, 0) h1, cell_of_row W' g 2 _ _ (0, 0) h1⟩
set_option maxRecDepth 50000 in
set_option maxHeartbeats 1000000 in
theorem alive_any (w : World) : Calls Try.prog 7 #[] w fun e w' => e = .returned (.bool true) ∧ Below w.heap.size w w' := by
  have hP : ∀ (k : Nat) W, k < 6 → Calls Try.prog 8 #[smallV, .int .i64 (k : Int)] W fun e w' => e = .returned (.tuple #[partV smallG k, .int .i64 0]) ∧ Below W.heap.size W w' := fun k W hk => part_ok smallG k k rfl W smallG_ok hk
  have hI : ∀ W, Calls Try.prog 9 #[smallV, .int .u32 3] W fun e w' => e = .returned (.tuple #[.int .i64 44, .int .i64 0, .int .i64 0]) ∧ Below W.heap.size W w' := fun W => inode_ok smallG 2 3 rfl W smallG_ok (by decide)
  have hB1 : ∀ W, Calls Try.prog 10 #[smallV, .int .u16 1] W fun e w' => e = .returned (.tuple #[.int .i64 47, .int .i64 0]) ∧ Below W.heap.size W w' := fun W => block_ok smallG 0 1 rfl W smallG_ok (by decide)
  have hB0 : ∀ W, Calls Try.prog 10 #[smallV, .int .u16 0] W fun e w' => e = .returned (.tuple #[.int .i64 0, .int .i64 2]) ∧ Below W.heap.size W w' := fun W => block_bad 8 16 40 0 W (.inr (.inl (by decide))) (by decide) (by decide)
  have hR : ∀ W, Calls Try.prog 13 #[.string ⟨#[]⟩] W fun e w' => e = .returned (.tuple #[geoV 0 0 0, .int .i64 7]) ∧ Below W.heap.size W w' := fun W => read_any [] W (by decide)
  have hS : ∀ W, Calls Try.prog 17 #[smallV] W fun e w' => e = .returned (.int .i64 63) ∧ Below W.heap.size W w' := fun W => sectors_ok smallG W smallG_ok
  have HP := Lib.hid hP
  have HI := Lib.hid hI
  have HB1 := Lib.hid hB1
  have HB0 := Lib.hid hB0
  have HR := Lib.hid hR
  have HS := Lib.hid hS
  have HO := Lib.hid fun k (hk : k ≤ 6) => smallG.off_le smallG_ok k hk
  have HC := Lib.hid fun k => smallG.cnt_le smallG_ok k
  clear hP hI hB1 hB0 hR hS
  go_enter Try.func7, Try.ntmps7
  go_wp2_with fail
  refine (small_any _).mono ?_
  rintro e w1 ⟨rfl, hb1⟩
  have B1 := Lib.hid hb1
  clear hb1
  go_wp2_with fail
  go_loopw [3, 4, 5] (fun i _ _ wr => ∃ k : Nat, k ≤ 6 ∧ i = .int .i64 k ∧ wr.heap[w1.heap.size]? = some (.cells #[.int .i64 8, .int .i64 16, .int .i64 40] 23 (0, 0)) ∧ wr.heap[w1.heap.size + 1]? = some (.cells fromC.toArray 3 (0, 0)) ∧ Below w.heap.size w wr) (fun i _ _ _ => 6 - (intOf i).toNat)
  case atStart => exact ⟨0, by omega, rfl, heap_low _ _ _, heap_new2 _ _ _, (B1.out.alloc B1.out.size _).alloc (by have := B1.out.size; simp; omega) _⟩
  case round =>
    obtain ⟨k, hk, rfl, hg, hl, hb⟩ := hrel
    have hz := (Array.getElem?_eq_some_iff.1 hl).1
    have Hg := Lib.hid hg
    have Hl := Lib.hid hl
    have g0 := cell_of_row wr w1.heap.size 0 _ 23 (0, 0) hg
    have g1 := cell_of_row wr w1.heap.size 1 _ 23 (0, 0) hg
    have g2 := cell_of_row wr w1.heap.size 2 _ 23 (0, 0) hg
    simp only [List.getElem?_toArray, List.getElem?_cons_zero, List.getElem?_cons_succ] at g0 g1 g2
    by_cases hlt : k < 6
    · have hc := cell_of_row wr (w1.heap.size + 1) k _ 3 (0, 0) hl
      rw [List.getElem?_toArray, fromC_at k hlt] at hc
      have HPk := Lib.hid fun W => HP.out k W hlt
      have hlt' : (k : Int) < 6 := by omega
      have hk0 : 0 ≤ (k : Int) := by omega
      clear hg hl
      go_wp2_with fail
      with_reducible refine (HPk.out _).mono ?_
      rintro e w3 ⟨rfl, hb3⟩
      have B3 := Lib.hid hb3
      have hz4 : w1.heap.size + 1 < w3.heap.size := by have := hb3.size; omega
      have hc3 : w3.cell? ⟨w1.heap.size + 1, k, none⟩ = some (.int .i64 (smallG.off k : Int)) := (hb3.cell (p := ⟨w1.heap.size + 1, k, none⟩) hz).trans hc
      clear hb3 hc g0 g1 g2
      go_wp2_with fail
      go_quiet (fail)
      go_wp2_with fail
      go_roundw
      case rel =>
        have hB : Below wr.heap.size wr ((w3.alloc (.cells #[.int .i64 (smallG.off k : Int), .int .i64 (smallG.cnt k : Int)] 28)).drewN nq) := below_drewN (B3.out.alloc B3.out.size _) _
        exact ⟨k + 1, by omega, by go_num, (hB.block _ (by omega)).trans Hg.out, (hB.block _ hz).trans Hl.out, hb.trans (hB.mono hb.size)⟩
      case measure => simp [intOf]; omega
    · have hkq : k = 6 := by omega
      subst hkq
      clear hg hl
      go_wp2_with fail
      have C := Lib.hid (Below.refl wr.heap.size wr)
      with_reducible refine (HI.out _).mono ?_
      rintro e w3 ⟨rfl, hb3⟩
      have C := Lib.hid (C.out.trans (hb3.mono C.out.size))
      obtain ⟨g0, g1, g2⟩ := gcells (C.out.block _ (by omega)) Hg.out
      have hx3 := C.out.size
      clear hb3
      go_wp2_with fail
      with_reducible refine (HB1.out _).mono ?_
      rintro e w4 ⟨rfl, hb4⟩
      have C := Lib.hid (C.out.trans (hb4.mono C.out.size))
      obtain ⟨g0, g1, g2⟩ := gcells (C.out.block _ (by omega)) Hg.out
      have hx4 := C.out.size
      clear hb4
      go_wp2_with fail
      with_reducible refine (HB0.out _).mono ?_
      rintro e w5 ⟨rfl, hb5⟩
      have C := Lib.hid (C.out.trans (hb5.mono C.out.size))
      obtain ⟨g0, g1, g2⟩ := gcells (C.out.block _ (by omega)) Hg.out
      have hx5 := C.out.size
      clear hb5
      go_wp2_with fail
      with_reducible refine (HR.out _).mono ?_
      rintro e w6 ⟨rfl, hb6⟩
      have C := Lib.hid (C.out.trans (hb6.mono C.out.size))
      have hx6 : w1.heap.size < w6.heap.size := by have := C.out.size; omega
      obtain ⟨g0, g1, g2⟩ := gcells (C.out.block _ (by omega)) Hg.out
      clear hb6
      go_wp2_with fail
      with_reducible refine (HS.out _).mono ?_
      rintro e w7 ⟨rfl, hb7⟩
      go_wp2_with fail
      go_ret
      exact ⟨rfl, (hb.trans ((C.out.alloc C.out.size _).mono hb.size)).trans (hb7.mono (by simp; have := C.out.size; have := hb.size; omega))⟩
end Go.Proofs.Ytoighnnjadmoiaa
