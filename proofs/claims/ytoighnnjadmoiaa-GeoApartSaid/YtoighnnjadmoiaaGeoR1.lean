/- Layer 5, the document's own answers: May, Part, Sectors. -/
import Derived.Test.YtoighnnjadmoiaaGeo4
namespace Go.Proofs.Ytoighnnjadmoiaa
open Go.RowKit
set_option linter.unusedVariables false
set_option linter.unusedSimpArgs false
set_option maxRecDepth 10000
set_option maxHeartbeats 400000 in
theorem refMay_ok (i b j : Int) (w : World) (h : mayI i b j) :
    Calls Try.prog 16 #[geoV i b j] w fun e w' => e = .returned (.bool true) ∧ Below w.heap.size w w' := by
  obtain ⟨⟨h1, h2⟩, ⟨h3, h4⟩, h5, h6⟩ := h
  go_enter Try.func16, Try.ntmps16
  go_wp2
  go_ret
  exact ⟨rfl, (Below.refl _ _).alloc (Nat.le_refl _) _⟩
set_option maxHeartbeats 1000000 in
theorem refMay_bad (i b j : Int) (w : World) (h : ¬ mayI i b j) :
    Calls Try.prog 16 #[geoV i b j] w fun e w' => e = .returned (.bool false) ∧ Below w.heap.size w w' := by
  unfold mayI at h
  by_cases h1 : 2 ≤ i
  · by_cases h2 : i ≤ 256
    · by_cases h3 : 8 ≤ b
      · by_cases h4 : b ≤ 1024
        · by_cases h5 : 40 ≤ j
          · have h6 : ¬ j ≤ 256 := by omega
            have hd : decide (j ≤ 256) = false := by simpa using h6
            clear h
            go_enter Try.func16, Try.ntmps16
            go_wp2
            go_ret
            exact ⟨rfl, (Below.refl _ _).alloc (Nat.le_refl _) _⟩
          · clear h
            go_enter Try.func16, Try.ntmps16
            go_wp2
            go_ret
            exact ⟨rfl, (Below.refl _ _).alloc (Nat.le_refl _) _⟩
        · clear h
          go_enter Try.func16, Try.ntmps16
          go_wp2
          go_ret
          exact ⟨rfl, (Below.refl _ _).alloc (Nat.le_refl _) _⟩
      · clear h
        go_enter Try.func16, Try.ntmps16
        go_wp2
        go_ret
        exact ⟨rfl, (Below.refl _ _).alloc (Nat.le_refl _) _⟩
    · clear h
      go_enter Try.func16, Try.ntmps16
      go_wp2
      go_ret
      exact ⟨rfl, (Below.refl _ _).alloc (Nat.le_refl _) _⟩
  · clear h
    go_enter Try.func16, Try.ntmps16
    go_wp2
    go_ret
    exact ⟨rfl, (Below.refl _ _).alloc (Nat.le_refl _) _⟩
/-- The sizes lie in block B, as a slice's cells. -/
def LaidR (W : World) (B : Nat) (G : Gm) : Prop := W.heap[B]? = some (.cells (sizesL G).toArray 3 (0, 0))
def SizesPost (G : Gm) (w : World) (e : Ending) (w' : World) : Prop := ∃ B, e = .returned (.slice (some ⟨B, 0, none⟩) 6 6) ∧ LaidR w' B G ∧ w.heap.size ≤ B ∧ Below w.heap.size w w'
set_option maxHeartbeats 400000 in
theorem refSizes_any (G : Gm) (w : World) (h : G.ok) : Calls Try.prog 32 #[gv G] w (SizesPost G w) := by
  unfold Gm.ok at h
  obtain ⟨⟨h1, h2⟩, ⟨h3, h4⟩, h5, h6⟩ := h
  go_enter Try.func32, Try.ntmps32
  go_wp2
  go_ret
  exact ⟨w.heap.size + 1, rfl, heap_new2 _ _ _, by omega, ((Below.refl _ _).alloc (Nat.le_refl _) _).alloc (by simp) _⟩
set_option maxHeartbeats 1000000 in
theorem refPart_ok (G : Gm) (p : Nat) (x : Int) (hx : x = (p : Int)) (w : World) (h : G.ok) (hp : p < 6) :
    Calls Try.prog 19 #[gv G, .int .i64 x] w fun e w' => e = .returned (.tuple #[partV G p, .int .i64 0]) ∧ Below w.heap.size w w' := by
  subst hx
  have HZ := Lib.hid fun W => refSizes_any G W h
  have HO := Lib.hid (fun p (hp : p ≤ 6) => G.off_le h p hp)
  have HC := Lib.hid (fun p => G.cnt_le h p)
  have hp' : (p : Int) < 6 := by omega
  go_enter Try.func19, Try.ntmps19
  go_wp2_with fail
  with_reducible refine (HZ.out _).mono ?_
  rintro e w1 ⟨bb, rfl, hL, hge, hb⟩
  have B := Lib.hid hb
  have HL := Lib.hid hL
  have hz := hb.size
  have hzb := (Array.getElem?_eq_some_iff.1 hL).1
  simp at hz
  clear hL hb hge
  go_wp2_with fail
  go_loopw [7, 8] (fun f i wr => ∃ k : Nat, k ≤ p ∧ i = .int .i64 k ∧ f = .int .i64 (G.off k : Int) ∧ wr = w1) (fun _ i _ => p - (intOf i).toNat)
  case atStart => exact ⟨0, Nat.zero_le _, rfl, rfl, rfl⟩
  case round =>
    obtain ⟨k, hk, rfl, rfl, rfl⟩ := hrel
    have hcell := cell_of_row wr bb k _ 3 (0, 0) HL.out
    rw [List.getElem?_toArray, sizesL_at G k (by omega)] at hcell
    have ho := HO.out k (by omega)
    have hc := HC.out k
    have hk6 : (k : Int) < 6 := by omega
    by_cases hlt : k < p
    · go_wp2_with fail
      go_roundw
      case rel => exact ⟨k + 1, by omega, by go_num, by rw [Gm.off_succ]; go_num, by first | trivial | rfl⟩
      case measure => simp [intOf]; omega
    · have hkp : k = p := by omega
      subst hkp
      have hrow := (B.out.block (w.heap.size + 1) (by simp)).trans (heap_new2 w _ _)
      have r2 := frozen_of_row wr (w.heap.size + 1) 0 _ 28 hrow
      have r3 := frozen_of_row wr (w.heap.size + 1) 1 _ 28 hrow
      have c0 := cell_of_row wr (w.heap.size + 1) 0 _ 28 (0, 0) hrow
      have c1 := cell_of_row wr (w.heap.size + 1) 1 _ 28 (0, 0) hrow
      simp only [List.getElem?_toArray, List.getElem?_cons_zero, List.getElem?_cons_succ] at c0 c1
      have Hrow := Lib.hid hrow
      clear hrow
      go_wp2_with fail
      refine bodyPost_ret (v := .tuple #[partV G k, .int .i64 0]) ?_ rfl ⟨rfl, ((((((Below.refl _ _).alloc (Nat.le_refl _) _).alloc (by simp) _).trans (B.out.mono (by simp; omega))).setCell (by simp) _).setCell (by simp) _)⟩
      exact results_row_tmp (p := 4) (q := 5) rfl _ _ (w.heap.size + 1) _ rfl (load_span _ _ _ _ (set2 Hrow.out _ _))
set_option maxHeartbeats 1000000 in
theorem refPart_bad (i b j x : Int) (w : World) (h : x < 0 ∨ 5 < x) :
    Calls Try.prog 19 #[geoV i b j, .int .i64 x] w fun e w' => e = .returned (.tuple #[spanV 0 0, .int .i64 2]) ∧ Below w.heap.size w w' := by
  by_cases h0 : x < 0
  · clear h
    go_enter Try.func19, Try.ntmps19
    go_wp2
    refine bodyPost_ret (v := .tuple #[spanV 0 0, .int .i64 2]) ?_ rfl ⟨rfl, ((Below.refl _ _).alloc (Nat.le_refl _) _).alloc (by simp) _⟩
    exact results_row_tmp (p := 4) (q := 5) rfl _ _ (w.heap.size + 1) _ rfl (load_span _ _ _ _ (heap_new2 _ _ _))
  · have h6 : 6 ≤ x := by omega
    clear h
    go_enter Try.func19, Try.ntmps19
    go_wp2
    refine bodyPost_ret (v := .tuple #[spanV 0 0, .int .i64 2]) ?_ rfl ⟨rfl, ((Below.refl _ _).alloc (Nat.le_refl _) _).alloc (by simp) _⟩
    exact results_row_tmp (p := 4) (q := 5) rfl _ _ (w.heap.size + 1) _ rfl (load_span _ _ _ _ (heap_new2 _ _ _))
set_option maxHeartbeats 1000000 in
theorem refSectors_ok (G : Gm) (w : World) (h : G.ok) :
    Calls Try.prog 18 #[gv G] w fun e w' => e = .returned (.int .i64 (G.all : Int)) ∧ Below w.heap.size w w' := by
  have HP := Lib.hid fun W => refPart_ok G 5 5 rfl W h (by omega)
  have HM := Lib.hid fun W => refMay_ok _ _ _ W (gm_mayI h)
  have h1 := G.off_le h 5 (by omega)
  have h2 := G.cnt_le h 5
  go_enter Try.func18, Try.ntmps18
  go_wp2_with fail
  with_reducible refine (HM.out _).mono ?_
  rintro e w0 ⟨rfl, hb⟩
  have B := Lib.hid hb
  obtain ⟨hc, hf⟩ := bcell hb
  clear hb
  go_wp2_with fail
  with_reducible refine (HP.out _).mono ?_
  rintro e w1 ⟨rfl, hb⟩
  have B := Lib.hid (B.out.trans (hb.mono B.out.size))
  clear hb hc hf
  go_wp2_with fail
  go_ret
  exact ⟨by simp [Gm.all, Gm.off_succ], (((Below.refl _ _).alloc (Nat.le_refl _) _).trans (B.out.mono (by simp))).alloc (by have := B.out.size; simp at this; omega) _⟩
set_option maxHeartbeats 1000000 in
theorem refSectors_bad (i b j : Int) (w : World) (h : ¬ mayI i b j) :
    Calls Try.prog 18 #[geoV i b j] w fun e w' => e = .returned (.int .i64 0) ∧ Below w.heap.size w w' := by
  have HM := Lib.hid fun W => refMay_bad _ _ _ W h
  clear h
  go_enter Try.func18, Try.ntmps18
  go_wp2_with fail
  with_reducible refine (HM.out _).mono ?_
  rintro e w0 ⟨rfl, hb⟩
  go_wp2_with fail
  go_ret
  exact ⟨rfl, ((Below.refl _ _).alloc (Nat.le_refl _) _).trans (hb.mono (by simp))⟩
end Go.Proofs.Ytoighnnjadmoiaa
