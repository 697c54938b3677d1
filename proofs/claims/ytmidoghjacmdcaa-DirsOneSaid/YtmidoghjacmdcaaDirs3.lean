/- Layer 10 (dirs), continued: a slot's bytes, and what they tell. -/
import Derived.Test.YtmidoghjacmdcaaDirs2
import Derived.Test.YtmidoghjacmdcaaOctet5
namespace Go.Proofs.Ytmidoghjacmdcaa
open Go.RowKit Go.Lib
set_option linter.unusedVariables false
set_option linter.unusedSimpArgs false
set_option maxRecDepth 10000
/-- The two cells of a new block. -/
theorem two_cells (w : World) (a b : Value) (t : TypeId) : (w.alloc (.cells #[a, b] t)).cell? ⟨w.heap.size, 0, none⟩ = some a ∧ (w.alloc (.cells #[a, b] t)).cell? ⟨w.heap.size, 1, none⟩ = some b := by
  have h := heap_alloc_new w (.cells #[a, b] t)
  exact ⟨by rw [cell_of_row _ _ 0 _ t (0, 0) h]; rfl, by rw [cell_of_row _ _ 1 _ t (0, 0) h]; rfl⟩
theorem cells_two2 {W : World} {g : Nat} {a b : Value} {t : TypeId} (h : W.heap[g]? = some (.cells #[a, b] t (0, 0))) : W.cell? ⟨g, 0, none⟩ = some a ∧ W.cell? ⟨g, 1, none⟩ = some b := by
  exact ⟨by rw [cell_of_row W g 0 _ t (0, 0) h]; rfl, by rw [cell_of_row W g 1 _ t (0, 0) h]; rfl⟩
theorem set_two {W : World} {g : Nat} {a b : Value} (d0 : W.cell? ⟨g, 0, none⟩ = some a) (d1 : W.cell? ⟨g, 1, none⟩ = some b) (x y : Value) :
    ((W.setCell ⟨g, 0, none⟩ x).setCell ⟨g, 1, none⟩ y).cell? ⟨g, 0, none⟩ = some x ∧ ((W.setCell ⟨g, 0, none⟩ x).setCell ⟨g, 1, none⟩ y).cell? ⟨g, 1, none⟩ = some y := by
  have h : (W.setCell ⟨g, 0, none⟩ x).cell? ⟨g, 0, none⟩ = some x := World.cell?_setCell_same' _ _ _ (by rw [d0]; rfl)
  refine ⟨?_, World.cell?_setCell_same' _ _ _ (by rw [World.cell?_setCell_other _ _ _ _ (by simp), d1]; rfl)⟩
  rw [World.cell?_setCell_other _ _ _ _ (by simp)]
  exact h
theorem u32_small {i : Nat} (h : i < 4294967296) : ((i : Int) / 2 ^ (8 * 4) != 0) = false := by
  have : (i : Int) / 2 ^ (8 * 4) = 0 := by
    have : ((2 : Int) ^ (8 * 4)) = 4294967296 := by decide
    rw [this]; omega
  rw [this]; rfl
set_option maxHeartbeats 1000000 in
theorem dput_any (x : En) (w : World) (hi : x.i < 4294967296) (hn : x.n.length ≤ 27) :
    Calls Try.prog 37 #[x.v] w fun e w' => e = .returned (str (slotL x)) ∧ Below w.heap.size w w' := by
  obtain ⟨n, i⟩ := x
  simp only at hi hn
  have H1 := Lib.hid fun W => num_ok i 4 W (by omega) (by omega) (u32_small hi)
  have H2 := Lib.hid fun W => text8_ok n W (by omega)
  have hl4 : (leB 4 i).length = 4 := leB_length _ _
  have H3 := Lib.hid fun W => pad_ok (leB 4 i ++ (UInt8.ofNat n.length :: n)) (27 - n.length) 32 W (by simp [hl4]; omega) (by simp [hl4]; omega)
  have HE := Lib.hid (show slotL ⟨n, i⟩ = leB 4 i ++ (UInt8.ofNat n.length :: n) ++ List.replicate (27 - n.length) 0 from rfl)
  have e1 : IntKind.u64.wrap (i : Int) = (i : Int) := u64_wrap _ (by omega) (by omega)
  go_enter Try.func37, Try.ntmps37
  go_wp2_with fail
  refine (H1.out _).mono ?_
  rintro e w1 ⟨rfl, hb1⟩
  obtain ⟨c0, c1⟩ := two_cells w (str n) (.int .u32 (i : Int)) 34
  have d0 := (hb1.cell (p := ⟨w.heap.size, 0, none⟩) (by simp)).trans c0
  have B1 := Lib.hid (((Below.refl _ w).alloc (Nat.le_refl _) (.cells #[str n, .int .u32 (i : Int)] 34)).trans (hb1.mono (by simp)))
  clear c0 c1 hb1 H1
  go_wp2_with fail
  refine (H2.out _).mono ?_
  rintro e w2 ⟨rfl, hb2⟩
  have B2 := Lib.hid (B1.out.trans (hb2.mono B1.out.size))
  clear hb2 d0 B1 H2
  go_wp2_with fail
  refine (H3.out _).mono ?_
  rintro e w3 ⟨rfl, hb3⟩
  have B3 := Lib.hid (B2.out.trans (hb3.mono B2.out.size))
  clear hb3 B2 H3
  go_wp2_with fail
  go_ret
  exact ⟨by rw [HE.out]; rfl, B3.out⟩
set_option maxHeartbeats 1000000 in
theorem free_any (w : World) : Calls Try.prog 34 #[] w fun e w' => e = .returned (str freeL) ∧ Below w.heap.size w w' := by
  have hmk : ∀ W : World, (Instr.makeSlice 65 (.int .i64 32) (.int .i64 32)).run Try.prog W = .ok (.slice (some ⟨W.heap.size, 0, none⟩) 32 32) (W.alloc (.cells (byteCells (List.replicate 32 0)) 5)) := make_bytes 32 (by omega)
  have hcv : (convert 65 9 (.slice (some ⟨w.heap.size, 0, none⟩) 32 32)).run Try.prog (w.alloc (.cells (byteCells (List.replicate 32 0)) 5)) = .ok (str freeL) (w.alloc (.cells (byteCells (List.replicate 32 0)) 5)) :=
    conv_blk (P := Try.prog) 65 9 5 Try.underlying65 Try.underlying5 Try.underlying9 (w.alloc (.cells (byteCells (List.replicate 32 0)) 5)) w.heap.size 32 (List.replicate 32 0) (heap_alloc_new _ _)
  have hmk := hmk w
  generalize byteCells (List.replicate 32 0) = cs at *
  generalize freeL = F at *
  go_enter Try.func34, Try.ntmps34
  go_wp2
  go_ret
  exact ⟨rfl, (Below.refl _ _).alloc (Nat.le_refl _) _⟩
set_option maxHeartbeats 2000000 in
theorem dget_any (s : List UInt8) (w : World) (hs : s.length = 32) :
    Calls Try.prog 45 #[str s] w fun e w' => e = .returned (getE s).v ∧ Below w.heap.size w w' := by
  have H1 := Lib.hid fun W => cut_ok s 4 4 W (by simp only [maxLen]; omega) rfl (by omega)
  have H2 := Lib.hid fun W => get_ok (s.take 4) W (by simp; omega)
  have hlt := leV_lt4 s
  obtain ⟨n, hnE⟩ : ∃ n, (getE s).n = n := ⟨_, rfl⟩
  obtain ⟨i, hiE⟩ : ∃ i, leV (s.take 4) = i := ⟨_, rfl⟩
  have hv : (getE s).v = .agg #[str n, .int .u32 (i : Int)] := by rw [← hnE, ← hiE]; rfl
  have h3 : ∀ W, Calls Try.prog 58 #[str (s.drop 4)] W fun e w' => (∃ r x, e = .returned (.tuple #[str n, str r, .int .i64 x])) ∧ Below W.heap.size W w' := by
    intro W
    have hd : (s.drop 4).length = 28 := by simp; omega
    have hn : n = name8 (s.drop 4) := hnE.symm
    rw [hn]
    match hq : s.drop 4, hd with
    | b :: r, hd =>
      show Calls Try.prog 58 #[str (b :: r)] W fun e w' => (∃ r1 x, e = .returned (.tuple #[str (if b.toNat ≤ r.length then r.take b.toNat else []), str r1, .int .i64 x])) ∧ Below W.heap.size W w'
      by_cases hb : b.toNat ≤ r.length
      · rw [if_pos hb]
        exact (read8_ok b r W (by simp only [maxLen]; omega) hb).mono fun e w' h => ⟨⟨_, _, h.1⟩, h.2⟩
      · rw [if_neg hb]
        exact (read8_short b r W (by simp only [maxLen]; omega) (by omega)).mono fun e w' h => ⟨⟨_, _, h.1⟩, h.2⟩
  have H3 := Lib.hid h3
  rw [hiE] at hlt
  rw [hiE] at H2
  rw [hv]
  have e1 : IntKind.u32.wrap (i : Int) = (i : Int) := IntWalk.u32_in _ ⟨by omega, by omega⟩
  clear h3 hv hnE hiE hs
  generalize s.take 4 = s4 at *
  generalize s.drop 4 = sd at *
  go_enter Try.func45, Try.ntmps45
  go_wp2_with fail
  refine (H1.out _).mono ?_
  rintro e w1 ⟨rfl, hb1⟩
  obtain ⟨c0, c1⟩ := two_cells w (str []) (.int .u32 0) 34
  have B1 := Lib.hid (((Below.refl _ w).alloc (Nat.le_refl _) (.cells #[str [], .int .u32 0] 34)).trans (hb1.mono (by simp)))
  clear c0 c1
  have hsz : w.heap.size < w1.heap.size := by have := hb1.size; simp at this; omega
  have hcell : w1.heap[w.heap.size]? = some (.cells #[str [], .int .u32 0] 34 (0, 0)) := (hb1.block _ (by simp)).trans (heap_alloc_new w _)
  clear hb1 H1
  go_wp2_with fail
  refine (H2.out _).mono ?_
  rintro e w2 ⟨rfl, hb2⟩
  have hcell2 := (hb2.block _ hsz).trans hcell
  have hsz2 : w.heap.size < w2.heap.size := by have := hb2.size; omega
  have B2 := Lib.hid (B1.out.trans (hb2.mono B1.out.size))
  clear hb2 hcell B1 H2 hsz
  go_wp2_with fail
  refine (H3.out _).mono ?_
  rintro e w3 ⟨⟨r, x, rfl⟩, hb3⟩
  have hcell3 := (hb3.block _ hsz2).trans hcell2
  have B3 := Lib.hid (B2.out.trans (hb3.mono B2.out.size))
  clear hb3 hcell2 B2 H3 hsz2
  obtain ⟨d0, d1⟩ := cells_two2 hcell3
  have f0 := frozen_of_row w3 w.heap.size 0 _ _ hcell3
  have f1 := frozen_of_row w3 w.heap.size 1 _ _ hcell3
  clear hcell3
  go_wp2_with fail
  obtain ⟨r0, r1⟩ := set_two d0 d1 (.string ⟨n.toArray⟩) (.int .u32 (i : Int))
  exact bodyPost_ret (v := .agg #[str n, .int .u32 (i : Int)]) (by simp [results, Try.f45, go_sem, r0, r1]) rfl ⟨rfl, ((B3.out.setCell (p := ⟨w.heap.size, 0, none⟩) (by simp) _).setCell (p := ⟨w.heap.size, 1, none⟩) (by simp) _)⟩
end Go.Proofs.Ytmidoghjacmdcaa
