import Derived.Test.YtnfiapjdkjbdhaaGreatP8
namespace Go.Proofs.YtnfiapjdkjbdhaaGreat
open Go.RowKit
set_option linter.unusedVariables false
set_option linter.unusedSimpArgs false
set_option maxRecDepth 10000
/-- The first bytes, if there are so many. -/
def cutA (n : Nat) (l : List UInt8) : List UInt8 := if n ≤ l.length then l.take n else []
theorem cutA_length (n : Nat) (l : List UInt8) : (cutA n l).length ≤ n := by
  unfold cutA; split <;> simp; omega
def CutPost (n : Nat) (l : List UInt8) (w : World) (e : Ending) (w' : World) : Prop := ∃ x : Int, e = .returned (.tuple #[str (cutA n l), str (l.drop n), .int .i64 x]) ∧ Below w.heap.size w w'
theorem cut_post (l : List UInt8) (n : Nat) (x : Int) (hx : x = (n : Int)) (w : World) (hs : l.length ≤ maxLen) :
    Calls Tryz.prog 66 #[str l, .int .i64 x] w (CutPost n l w) := by
  by_cases h : n ≤ l.length
  · refine (cut_ok l x n w hs hx h).mono ?_
    rintro e w' ⟨rfl, hb⟩
    exact ⟨0, by rw [cutA, if_pos h], hb⟩
  · refine (cut_far l x w hs (by omega)).mono ?_
    rintro e w' ⟨rfl, hb⟩
    exact ⟨6, by rw [cutA, if_neg h, List.drop_of_length_le (by omega)], hb⟩
/-- The k-th number that Read finds. -/
def gotA (s : List UInt8) (k : Nat) : Nat := leV (cutA 4 (s.drop (8 + 4 * k)))
theorem gotA_lt (s : List UInt8) (k : Nat) : gotA s k < 4294967296 :=
  Nat.lt_of_lt_of_le (leV_lt _) (Nat.le_trans (Nat.pow_le_pow_right (by omega) (cutA_length 4 _)) (by decide))
/-- The geometry that Read finds. -/
def gA (s : List UInt8) : Gm := ⟨gotA s 0, gotA s 1, gotA s 2⟩
theorem gA_got {s : List UInt8} (h : s.length = 64) : gA s = gotL s := by
  unfold gA gotL gotA cutA
  rw [if_pos (by simp; omega), if_pos (by simp; omega), if_pos (by simp; omega)]
theorem readA (s : List UInt8) : readL s = if (gA s).ok ∧ superL (gA s) = s then some (gA s) else none := by
  by_cases h : s.length = 64
  · rw [gA_got h]; rfl
  · rw [readL_short h, if_neg]
    rintro ⟨-, e⟩
    exact h (by rw [← e, superL_length])
/-- The array of numbers behind k rounds. -/
def cellsA (s : List UInt8) : Nat → Array Value
  | 0 => #[.int .i64 0, .int .i64 0, .int .i64 0]
  | 1 => #[.int .i64 (gotA s 0 : Int), .int .i64 0, .int .i64 0]
  | 2 => #[.int .i64 (gotA s 0 : Int), .int .i64 (gotA s 1 : Int), .int .i64 0]
  | _ => #[.int .i64 (gotA s 0 : Int), .int .i64 (gotA s 1 : Int), .int .i64 (gotA s 2 : Int)]
theorem cellsA_set (s : List UInt8) (k : Nat) (hk : k < 3) : (cellsA s k).setIfInBounds k (.int .i64 (gotA s k : Int)) = cellsA s (k + 1) := by
  match k, hk with
  | 0, _ | 1, _ | 2, _ => rfl
theorem cellsA_at (s : List UInt8) (k : Nat) (hk : k < 3) : ∃ v, (cellsA s k)[k]? = some v := by
  match k, hk with
  | 0, _ | 1, _ | 2, _ => exact ⟨_, rfl⟩
theorem set3g {W : World} {g : Nat} {a b c : Value} {t : TypeId} (h : W.heap[g]? = some (.cells #[a, b, c] t (0, 0))) (x y z : Value) :
    (((W.setCell ⟨g, 0, none⟩ x).setCell ⟨g, 1, none⟩ y).setCell ⟨g, 2, none⟩ z).heap[g]? = some (.cells #[x, y, z] t (0, 0)) := by
  have h1 := heap_setCell_same W g 0 _ t x h
  have h2 := heap_setCell_same _ g 1 _ t y h1
  have h3 := heap_setCell_same _ g 2 _ t z h2
  exact h3
/-- What Read answers. -/
def readV : Option Gm → Value
  | some G => .tuple #[gv G, .int .i64 0]
  | none => .tuple #[geoV 0 0 0, .int .i64 7]
set_option maxRecDepth 20000 in
set_option maxHeartbeats 1000000 in
theorem geoRead_any (s : List UInt8) (w : World) (hs : s.length ≤ maxLen) :
    Calls Tryz.prog 26 #[str s] w fun e w' => e = .returned (readV (readL s)) ∧ Below w.heap.size w w' := by
  have HC0 := Lib.hid fun W => cut_post s 8 8 rfl W hs
  have HC := Lib.hid fun k W => cut_post (s.drop (8 + 4 * k)) 4 4 rfl W (by rw [List.length_drop]; omega)
  have hgk : ∀ k W, Calls Tryz.prog 67 #[str (cutA 4 (s.drop (8 + 4 * k)))] W fun e w' => e = .returned (.tuple #[.int .u64 (gotA s k : Int), .int .i64 0]) ∧ Below W.heap.size W w' := fun k W => get_ok (cutA 4 (s.drop (8 + 4 * k))) W (Nat.le_trans (cutA_length 4 _) (by omega))
  have HG := Lib.hid hgk
  clear hgk
  have HGL := Lib.hid fun k => gotA_lt s k
  go_enter Tryz.func26, Tryz.ntmps26
  go_wp2_with fail
  with_reducible refine (HC0.out _).mono ?_
  rintro e w1 ⟨x0, rfl, hb⟩
  have B := Lib.hid hb
  have hz : w.heap.size < w1.heap.size := by have := hb.size; simp at this; omega
  clear hb
  go_wp2_with fail
  go_loopw [5, 8, 9, 10, 11, 21] (fun r _ _ _ _ i wr => ∃ k : Nat, k ≤ 3 ∧ i = .int .i64 k ∧ r = str (s.drop (8 + 4 * k)) ∧ wr.heap[w1.heap.size]? = some (.cells (cellsA s k) 136 (0, 0)) ∧ Below w1.heap.size w1 wr) (fun _ _ _ _ _ i _ => 3 - (Go.RowKit.intOf i).toNat)
  case atStart => exact ⟨0, by omega, rfl, rfl, heap_alloc_new _ _, (Below.refl _ _).alloc (Nat.le_refl _) _⟩
  case round =>
    obtain ⟨k, hk, rfl, rfl, hg, hb⟩ := hrel
    have Hg := Lib.hid hg
    have hgl := HGL.out k
    by_cases hlt : k < 3
    · have hlw := (Array.getElem?_eq_some_iff.1 hg).1
      clear hg
      go_wp2_with fail
      with_reducible refine (HC.out k _).mono ?_
      rintro e w3 ⟨x3, rfl, hb3⟩
      have B3 := Lib.hid hb3
      clear hb3
      go_wp2_with fail
      with_reducible refine (HG.out k _).mono ?_
      rintro e w4 ⟨rfl, hb4⟩
      have hz3 := B3.out.size
      have B4 := Lib.hid (B3.out.trans (hb4.mono hz3))
      clear hb4
      have hrow := (B4.out.block w1.heap.size hlw).trans Hg.out
      obtain ⟨v, hv⟩ := cellsA_at s k hlt
      have hcell := cell_of_row w4 w1.heap.size k _ 136 (0, 0) hrow
      rw [hv] at hcell
      have hfr := frozen_of_row w4 w1.heap.size k _ 136 hrow
      have Hrow := Lib.hid hrow
      clear hrow hv
      go_wp2_with fail
      go_roundw
      case rel =>
        refine ⟨k + 1, by omega, by go_num, ?_, ?_, (hb.trans (B4.out.mono hb.size)).setCell (Nat.le_refl _) _⟩
        · rw [show 8 + 4 * (k + 1) = 8 + 4 * k + 4 by omega]
        · rw [heap_setCell_same _ _ _ _ _ _ Hrow.out, cellsA_set s k hlt]
      case measure => simp [Go.RowKit.intOf]; omega
    · have hkq : k = 3 := by omega
      subst hkq
      have c0 := cell_of_row wr w1.heap.size 0 _ 136 (0, 0) hg
      have c1 := cell_of_row wr w1.heap.size 1 _ 136 (0, 0) hg
      have c2 := cell_of_row wr w1.heap.size 2 _ 136 (0, 0) hg
      simp only [cellsA, List.getElem?_toArray, List.getElem?_cons_zero, List.getElem?_cons_succ] at c0 c1 c2
      have hrow := ((B.out.trans (hb.mono B.out.size)).block w.heap.size (by simp)).trans (heap_alloc_new w _)
      have Hrow := Lib.hid hrow
      have hz2 := hb.size
      clear hg hrow hgl
      have HRA := Lib.hid (readA s)
      by_cases hok : (gA s).ok
      · have hsg : ∀ W, Calls Tryz.prog 68 #[geoV (gotA s 0 : Int) (gotA s 1 : Int) (gotA s 2 : Int)] W fun e w' => e = .returned (.tuple #[str (superL (gA s)), .int .i64 0]) ∧ Below W.heap.size W w' := fun W => super_ok (gA s) W hok
        by_cases heq : superL (gA s) = s
        · have HN := Lib.hid (show readL s = some (gA s) by rw [HRA.out, if_pos ⟨hok, heq⟩])
          rw [heq] at hsg
          have HS := Lib.hid hsg
          clear hsg heq hok
          go_wp2_with fail
          with_reducible refine (HS.out _).mono ?_
          rintro e w3 ⟨rfl, hb3⟩
          have B3 := Lib.hid hb3
          have hz3 := hb3.size
          have hrow3 := (hb3.block w.heap.size (by simp; omega)).trans ((((Below.refl wr.heap.size wr).alloc (Nat.le_refl _) _).block w.heap.size (by omega)).trans Hrow.out)
          have grow3 := (hb3.block wr.heap.size (by simp)).trans (heap_alloc_new wr _)
          have r2 := frozen_of_row w3 w.heap.size 0 _ 23 hrow3
          have r3 := frozen_of_row w3 w.heap.size 1 _ 23 hrow3
          have r4 := frozen_of_row w3 w.heap.size 2 _ 23 hrow3
          have c0 := cell_of_row w3 w.heap.size 0 _ 23 (0, 0) hrow3
          have c1 := cell_of_row w3 w.heap.size 1 _ 23 (0, 0) hrow3
          have c2 := cell_of_row w3 w.heap.size 2 _ 23 (0, 0) hrow3
          have d0 := cell_of_row w3 wr.heap.size 0 _ 23 (0, 0) grow3
          have d1 := cell_of_row w3 wr.heap.size 1 _ 23 (0, 0) grow3
          have d2 := cell_of_row w3 wr.heap.size 2 _ 23 (0, 0) grow3
          simp only [List.getElem?_toArray, List.getElem?_cons_zero, List.getElem?_cons_succ] at c0 c1 c2 d0 d1 d2
          have Hrow3 := Lib.hid hrow3
          clear hb3 hrow3 grow3
          go_wp2_with fail
          have e2 : Below w.heap.size w w3 := (((((Below.refl _ _).alloc (Nat.le_refl _) _).trans (B.out.mono (by simp))).trans (hb.mono (by omega))).alloc (by omega) _).trans (B3.out.mono (by simp; omega))
          refine bodyPost_ret (v := readV (some (gA s))) ?_ rfl ⟨by rw [HN.out], ((e2.setCell (Nat.le_refl _) _).setCell (Nat.le_refl _) _).setCell (Nat.le_refl _) _⟩
          exact results_row_tmp (p := 2) (q := 3) rfl _ _ w.heap.size _ rfl (load_geo _ _ _ _ _ (set3g Hrow3.out _ _ _))
        · have HN := Lib.hid (show readL s = none by rw [HRA.out, if_neg (fun h => heq h.2)])
          have hne : (superL (gA s) == s) = false := by simpa using heq
          generalize superL (gA s) = t at hsg hne
          have HS := Lib.hid hsg
          clear hsg heq hok
          go_wp2_with fail
          with_reducible refine (HS.out _).mono ?_
          rintro e w3 ⟨rfl, hb3⟩
          have B3 := Lib.hid hb3
          have hz3 := hb3.size
          have hrow3 := (hb3.block w.heap.size (by simp; omega)).trans ((((Below.refl wr.heap.size wr).alloc (Nat.le_refl _) _).block w.heap.size (by omega)).trans Hrow.out)
          have grow3 := (hb3.block wr.heap.size (by simp)).trans (heap_alloc_new wr _)
          have r2 := frozen_of_row w3 w.heap.size 0 _ 23 hrow3
          have r3 := frozen_of_row w3 w.heap.size 1 _ 23 hrow3
          have r4 := frozen_of_row w3 w.heap.size 2 _ 23 hrow3
          have c0 := cell_of_row w3 w.heap.size 0 _ 23 (0, 0) hrow3
          have c1 := cell_of_row w3 w.heap.size 1 _ 23 (0, 0) hrow3
          have c2 := cell_of_row w3 w.heap.size 2 _ 23 (0, 0) hrow3
          have d0 := cell_of_row w3 wr.heap.size 0 _ 23 (0, 0) grow3
          have d1 := cell_of_row w3 wr.heap.size 1 _ 23 (0, 0) grow3
          have d2 := cell_of_row w3 wr.heap.size 2 _ 23 (0, 0) grow3
          simp only [List.getElem?_toArray, List.getElem?_cons_zero, List.getElem?_cons_succ] at c0 c1 c2 d0 d1 d2
          have Hrow3 := Lib.hid hrow3
          clear hb3 hrow3 grow3
          go_wp2_with fail
          have e2 : Below w.heap.size w w3 := (((((Below.refl _ _).alloc (Nat.le_refl _) _).trans (B.out.mono (by simp))).trans (hb.mono (by omega))).alloc (by omega) _).trans (B3.out.mono (by simp; omega))
          refine bodyPost_ret (v := readV none) ?_ rfl ⟨by rw [HN.out], ((e2.setCell (Nat.le_refl _) _).setCell (Nat.le_refl _) _).setCell (Nat.le_refl _) _⟩
          exact results_row_tmp (p := 2) (q := 3) rfl _ _ w.heap.size _ rfl (load_geo _ _ _ _ _ (set3g Hrow3.out _ _ _))
      · have hm : ¬ mayI (gotA s 0 : Int) (gotA s 1 : Int) (gotA s 2 : Int) := fun hm => hok (by
          unfold mayI at hm; unfold Gm.ok gA; simp only; omega)
        have HS := Lib.hid fun W => super_bad _ _ _ W hm
        have HN := Lib.hid (show readL s = none by rw [HRA.out, if_neg (fun h => hok h.1)])
        clear hok hm
        go_wp2_with fail
        with_reducible refine (HS.out _).mono ?_
        rintro e w3 ⟨rfl, hb3⟩
        have B3 := Lib.hid hb3
        have hz3 := hb3.size
        have hrow3 := (hb3.block w.heap.size (by simp; omega)).trans ((((Below.refl wr.heap.size wr).alloc (Nat.le_refl _) _).block w.heap.size (by omega)).trans Hrow.out)
        have grow3 := (hb3.block wr.heap.size (by simp)).trans (heap_alloc_new wr _)
        have r2 := frozen_of_row w3 w.heap.size 0 _ 23 hrow3
        have r3 := frozen_of_row w3 w.heap.size 1 _ 23 hrow3
        have r4 := frozen_of_row w3 w.heap.size 2 _ 23 hrow3
        have c0 := cell_of_row w3 w.heap.size 0 _ 23 (0, 0) hrow3
        have c1 := cell_of_row w3 w.heap.size 1 _ 23 (0, 0) hrow3
        have c2 := cell_of_row w3 w.heap.size 2 _ 23 (0, 0) hrow3
        have d0 := cell_of_row w3 wr.heap.size 0 _ 23 (0, 0) grow3
        have d1 := cell_of_row w3 wr.heap.size 1 _ 23 (0, 0) grow3
        have d2 := cell_of_row w3 wr.heap.size 2 _ 23 (0, 0) grow3
        simp only [List.getElem?_toArray, List.getElem?_cons_zero, List.getElem?_cons_succ] at c0 c1 c2 d0 d1 d2
        have Hrow3 := Lib.hid hrow3
        clear hb3 hrow3 grow3
        go_wp2_with fail
        have e2 : Below w.heap.size w w3 := (((((Below.refl _ _).alloc (Nat.le_refl _) _).trans (B.out.mono (by simp))).trans (hb.mono (by omega))).alloc (by omega) _).trans (B3.out.mono (by simp; omega))
        refine bodyPost_ret (v := readV none) ?_ rfl ⟨by rw [HN.out], ((e2.setCell (Nat.le_refl _) _).setCell (Nat.le_refl _) _).setCell (Nat.le_refl _) _⟩
        exact results_row_tmp (p := 2) (q := 3) rfl _ _ w.heap.size _ rfl (load_geo _ _ _ _ _ (set3g Hrow3.out _ _ _))
end Go.Proofs.YtnfiapjdkjbdhaaGreat
/- Layer 7 (inode): which inodes may be. -/
namespace Go.Proofs.YtnfiapjdkjbdhaaGreat
open Go.RowKit
set_option linter.unusedVariables false
set_option linter.unusedSimpArgs false
set_option maxRecDepth 10000
theorem inside_five (z a b c d e : Nat) : inside z [a, b, c, d, e] ↔ (a = 0 ∨ 0 < z) ∧ (b = 0 ∨ 64 < z) ∧ (c = 0 ∨ 128 < z) ∧ (d = 0 ∨ 192 < z) ∧ (e = 0 ∨ 256 < z) := by
  unfold inside
  constructor
  · intro h
    exact ⟨by simpa using h 0 a rfl, by simpa using h 1 b rfl, by simpa using h 2 c rfl, by simpa using h 3 d rfl, by simpa using h 4 e rfl⟩
  · rintro ⟨h0, h1, h2, h3, h4⟩ j x hj
    match j, hj with
    | 0, hj => simp at hj; subst hj; simpa using h0
    | 1, hj => simp at hj; subst hj; simpa using h1
    | 2, hj => simp at hj; subst hj; simpa using h2
    | 3, hj => simp at hj; subst hj; simpa using h3
    | 4, hj => simp at hj; subst hj; simpa using h4
    | j + 5, hj => simp at hj
/-- The blocks are as those that are kept. -/
theorem kept_inside (z a b c d e : Nat) : (a = (if 0 < pagesN z then a else 0) ∧ b = (if 1 < pagesN z then b else 0) ∧ c = (if 2 < pagesN z then c else 0) ∧ d = (if 3 < pagesN z then d else 0) ∧ e = (if 4 < pagesN z then e else 0)) ↔ inside z [a, b, c, d, e] := by
  rw [inside_five]
  have hp : ∀ j, (j < pagesN z) = (64 * j < z) := fun j => by unfold pagesN; simp only [eq_iff_iff]; omega
  simp only [hp]
  have key : ∀ (x : Nat) (P : Prop) [Decidable P], (x = if P then x else 0) ↔ (x = 0 ∨ P) := fun x P _ => by
    split
    · rename_i h; simp [h]
    · rename_i h; simp [h]
  simp only [key, Nat.mul_zero, Nat.mul_one, Nat.reduceMul]
theorem may_zero {x : Im} (h : x.k = 0) : x.may ↔ x = Im.nought := by unfold Im.may; rw [if_pos h]
theorem may_more {x : Im} (h : 2 < x.k) : ¬ x.may := by
  unfold Im.may
  rw [if_neg (by omega)]
  rintro ⟨h1, _⟩
  omega
theorem may_dir {x : Im} (h : x.k = 2) (h2 : x.z % 64 ≠ 0) : ¬ x.may := by
  unfold Im.may
  rw [if_neg (by omega)]
  rintro ⟨_, _, _, h3, _⟩
  exact h2 (h3 h)
theorem may_one {x : Im} (h : x.k = 1 ∨ x.k = 2 ∧ x.z % 64 = 0) : x.may ↔ x.n ≤ 200 ∧ x.z ≤ 2304 ∧ inside x.z x.bl ∧ once x.bl := by
  unfold Im.may
  rw [if_neg (by omega)]
  constructor
  · rintro ⟨_, h1, h2, _, h3, h4⟩; exact ⟨h1, h2, h3, h4⟩
  · rintro ⟨h1, h2, h3, h4⟩; exact ⟨by omega, h1, h2, fun e => by omega, h3, h4⟩
set_option maxHeartbeats 400000 in
theorem valid_zero (x : Im) (h : x.k = 0) (w : World) :
    Calls Tryz.prog 151 #[x.v] w fun e w' => e = .returned (.bool (decide x.may)) ∧ Below w.heap.size w w' := by
  have heq := fun W => eq_nought x W
  have e : decide x.may = decide (x = Im.nought) := by simp only [may_zero h]
  rw [e]
  clear e
  have hk : ((x.k : Int) == 0) = true := by rw [h]; rfl
  have Hh := Lib.hid h
  clear h
  go_enter Tryz.func151, Tryz.ntmps151
  go_wp2
  go_ret
  exact ⟨rfl, (Below.refl _ _).alloc (Nat.le_refl _) _⟩
set_option maxHeartbeats 400000 in
theorem valid_more (x : Im) (h : 2 < x.k) (w : World) :
    Calls Tryz.prog 151 #[x.v] w fun e w' => e = .returned (.bool (decide x.may)) ∧ Below w.heap.size w w' := by
  have e : decide x.may = false := by simp [may_more h]
  rw [e]
  clear e
  have hk : ((x.k : Int) == 0) = false := by simp; omega
  have hk1 : ((x.k : Int) == 1) = false := by simp; omega
  have hk2 : ((x.k : Int) == 2) = false := by simp; omega
  have Hh := Lib.hid h
  clear h
  go_enter Tryz.func151, Tryz.ntmps151
  go_wp2
  go_ret
  exact ⟨rfl, (Below.refl _ _).alloc (Nat.le_refl _) _⟩
set_option maxHeartbeats 400000 in
theorem valid_dir (x : Im) (h : x.k = 2) (h2 : x.z % 64 ≠ 0) (hz : x.z < 4294967296) (w : World) :
    Calls Tryz.prog 151 #[x.v] w fun e w' => e = .returned (.bool (decide x.may)) ∧ Below w.heap.size w w' := by
  have e : decide x.may = false := by simp [may_dir h h2]
  rw [e]
  clear e
  have hk : ((x.k : Int) == 0) = false := by simp; omega
  have hk1 : ((x.k : Int) == 1) = false := by simp; omega
  have hk2 : ((x.k : Int) == 2) = true := by simp; omega
  have hm : ((x.z : Int) % 64 != 0) = true := by simp; omega
  have Hh := Lib.hid h
  clear h
  go_enter Tryz.func151, Tryz.ntmps151
  go_wp2
  go_ret
  exact ⟨rfl, (Below.refl _ _).alloc (Nat.le_refl _) _⟩
theorem row_lt' {w : World} {g : Nat} {o : Obj} (h : w.heap[g]? = some o) : g < w.heap.size := (Array.getElem?_eq_some_iff.1 h).1
theorem bl_lt {x : Im} (h : x.fits) : ∀ y ∈ x.bl, y < 65536 := by
  intro y hy
  obtain ⟨_, _, _, h0, h1, h2, h3, h4⟩ := h
  simp only [Im.bl, List.mem_cons, List.not_mem_nil, or_false] at hy
  rcases hy with rfl | rfl | rfl | rfl | rfl <;> assumption
set_option maxHeartbeats 4000000 in
theorem valid_file (x : Im) (hf : x.fits) (h : x.k = 1) (w : World) (t : Bool) (ht : t = true ↔ x.n ≤ 200 ∧ x.z ≤ 2304 ∧ inside x.z x.bl ∧ once x.bl) :
    Calls Tryz.prog 151 #[x.v] w fun e w' => e = .returned (.bool t) ∧ Below w.heap.size w w' := by
  have Ht := Lib.hid ht
  clear ht
  have hk : ((x.k : Int) == 0) = false := by simp; omega
  have hk1 : ((x.k : Int) == 1) = true := by simp; omega
  have HN := Lib.hid fun W => named_any x W
  have Hh := Lib.hid h
  clear h
  go_enter Tryz.func151, Tryz.ntmps151
  go_wp2_with fail
  refine (HN.out _).mono ?_
  rintro e w1 ⟨rfl, hb1⟩
  have hx : w1.heap[w.heap.size]? = some (.cells #[.int .u8 x.k, w16 x.n, .int .u32 x.z, w16 x.d0, w16 x.d1, w16 x.d2, w16 x.d3, w16 x.i] 41 (0, 0)) := (hb1.block w.heap.size (by simp)).trans (heap_alloc_new _ _)
  have hlt1 : w.heap.size < w1.heap.size := row_lt' hx
  have hxn : w1.cell? ⟨w.heap.size, 1, none⟩ = some (w16 x.n) := cell_of_row _ _ 1 _ _ (0, 0) hx
  have hxz : w1.cell? ⟨w.heap.size, 2, none⟩ = some (.int .u32 x.z) := cell_of_row _ _ 2 _ _ (0, 0) hx
  have Hx := Lib.hid hx
  have Hb1 := Lib.hid hb1
  clear hx hb1
  go_wp2_with fail
  have hl := Lib.hid (heap_alloc_new w1 (.cells #[.int .u16 x.d0, .int .u16 x.d1, .int .u16 x.d2, .int .u16 x.d3, .int .u16 x.i] 170))
  have l0 := cell_of_row _ _ 0 _ _ (0, 0) hl.out
  have l1 := cell_of_row _ _ 1 _ _ (0, 0) hl.out
  have l2 := cell_of_row _ _ 2 _ _ (0, 0) hl.out
  have l3 := cell_of_row _ _ 3 _ _ (0, 0) hl.out
  have l4 := cell_of_row _ _ 4 _ _ (0, 0) hl.out
  simp only [List.getElem?_toArray, List.getElem?_cons_zero, List.getElem?_cons_succ] at l0 l1 l2 l3 l4
  have C := Lib.hid ((Below.refl w1.heap.size w1).alloc (Nat.le_refl _) (.cells #[.int .u16 x.d0, .int .u16 x.d1, .int .u16 x.d2, .int .u16 x.d3, .int .u16 x.i] 170))
  have k1 := (C.out.cell (p := ⟨w.heap.size, 1, none⟩) hlt1).trans hxn
  have k2 := (C.out.cell (p := ⟨w.heap.size, 2, none⟩) hlt1).trans hxz
  have hltA : w.heap.size < (w1.alloc (.cells #[.int .u16 x.d0, .int .u16 x.d1, .int .u16 x.d2, .int .u16 x.d3, .int .u16 x.i] 170)).heap.size := by simp; omega
  have hltB : w1.heap.size < (w1.alloc (.cells #[.int .u16 x.d0, .int .u16 x.d1, .int .u16 x.d2, .int .u16 x.d3, .int .u16 x.i] 170)).heap.size := by simp
  generalize w1.alloc (.cells #[.int .u16 x.d0, .int .u16 x.d1, .int .u16 x.d2, .int .u16 x.d3, .int .u16 x.i] 170) = W2 at *
  have hBB := (((Below.refl w.heap.size w).alloc (Nat.le_refl _) (.cells #[.int .u8 x.k, w16 x.n, .int .u32 x.z, w16 x.d0, w16 x.d1, w16 x.d2, w16 x.d3, w16 x.i] 41)).trans (Hb1.out.mono (by simp))).trans (C.out.mono (by omega))
  by_cases c1 : x.n ≤ 200
  case neg =>
    have q1 : decide ((x.n : Int) ≤ 200) = false := by simp; omega
    go_quiet (fail)
    go_wp2
    go_ret
    exact ⟨by rw [show t = false from Bool.eq_false_iff.2 fun e => c1 (Ht.out.1 e).1]; rfl, below_drewN hBB _⟩
  have q1 : decide ((x.n : Int) ≤ 200) = true := by simp; omega
  by_cases c2 : x.z ≤ 2304
  case neg =>
    have q2 : decide ((x.z : Int) ≤ 2304) = false := by simp; omega
    go_quiet (fail)
    go_wp2
    go_ret
    exact ⟨by rw [show t = false from Bool.eq_false_iff.2 fun e => c2 (Ht.out.1 e).2.1]; rfl, below_drewN hBB _⟩
  have q2 : decide ((x.z : Int) ≤ 2304) = true := by simp; omega
  have HW := Lib.hid fun W => iWithin_any x.d0 x.d1 x.d2 x.d3 x.i x.z W (by omega)
  have HE := Lib.hid (kept_inside x.z x.d0 x.d1 x.d2 x.d3 x.i)
  have HQ := fun W => eq_five_nat x.d0 x.d1 x.d2 x.d3 x.i (if 0 < pagesN x.z then x.d0 else 0) (if 1 < pagesN x.z then x.d1 else 0) (if 2 < pagesN x.z then x.d2 else 0) (if 3 < pagesN x.z then x.d3 else 0) (if 4 < pagesN x.z then x.i else 0) W
  unfold keptL at HW
  generalize (if 0 < pagesN x.z then x.d0 else 0) = e0 at *
  generalize (if 1 < pagesN x.z then x.d1 else 0) = e1 at *
  generalize (if 2 < pagesN x.z then x.d2 else 0) = e2 at *
  generalize (if 3 < pagesN x.z then x.d3 else 0) = e3 at *
  generalize (if 4 < pagesN x.z then x.i else 0) = e4 at *
  by_cases c3 : inside x.z x.bl
  case neg =>
    have hq3 : decide (x.d0 = e0 ∧ x.d1 = e1 ∧ x.d2 = e2 ∧ x.d3 = e3 ∧ x.i = e4) = false := decide_eq_false fun e => c3 (HE.out.1 e)
    simp only [hq3] at HQ
    refine wp_region_held_drew (S := (fun W => W.cell? ⟨w.heap.size, 1, none⟩ = some (w16 x.n) ∧ W.cell? ⟨w.heap.size, 2, none⟩ = some (.int .u32 x.z) ∧ W.cell? ⟨w1.heap.size, 0, none⟩ = some (w16 x.d0) ∧ W.cell? ⟨w1.heap.size, 1, none⟩ = some (w16 x.d1) ∧ W.cell? ⟨w1.heap.size, 2, none⟩ = some (w16 x.d2) ∧ W.cell? ⟨w1.heap.size, 3, none⟩ = some (w16 x.d3) ∧ W.cell? ⟨w1.heap.size, 4, none⟩ = some (w16 x.i))) (by kernel_rfl) (⟨k1, k2, l0, l1, l2, l3, l4⟩) (fun hHeld => ?_)
    refine wpAnyH_take (i := 0) (oi := _) (v := ?_) rfl (by kernel_rfl) (by kernel_rfl) (by kernel_rfl) (fun _ _ _ h => h) (Or.inl ⟨by rfl, ?_⟩) (by assumption) ?_
    rotate_left
    · intro w hSw
      try dsimp only at hSw
      go_simp
      try with_reducible rfl
    (try simp only [Act.put, List.setIfInBounds_toArray, List.set_cons_zero, List.set_cons_succ, List.getElem_toArray, List.getElem_cons_zero, List.getElem_cons_succ])
    refine wpAnyH_take (i := 1) (oi := _) (v := ?_) rfl (by kernel_rfl) (by kernel_rfl) (by kernel_rfl) (fun _ _ _ h => h) (Or.inl ⟨by rfl, ?_⟩) (by assumption) ?_
    rotate_left
    · intro w hSw
      try dsimp only at hSw
      go_simp
      try with_reducible rfl
    (try simp only [Act.put, List.setIfInBounds_toArray, List.set_cons_zero, List.set_cons_succ, List.getElem_toArray, List.getElem_cons_zero, List.getElem_cons_succ])
    refine wpAnyH_take (i := 2) (oi := _) (v := ?_) rfl (by kernel_rfl) (by kernel_rfl) (by kernel_rfl) (fun _ _ _ h => h) (Or.inl ⟨by rfl, ?_⟩) (by assumption) ?_
    rotate_left
    · intro w hSw
      try dsimp only at hSw
      go_simp
      try with_reducible rfl
    (try simp only [Act.put, List.setIfInBounds_toArray, List.set_cons_zero, List.set_cons_succ, List.getElem_toArray, List.getElem_cons_zero, List.getElem_cons_succ])
    refine wpAnyH_take (i := 3) (oi := _) (v := ?_) rfl (by kernel_rfl) (by kernel_rfl) (by kernel_rfl) (fun _ _ _ h => h) (Or.inl ⟨by rfl, ?_⟩) (by assumption) ?_
    rotate_left
    · intro w hSw
      try dsimp only at hSw
      go_simp
      try with_reducible rfl
    (try simp only [Act.put, List.setIfInBounds_toArray, List.set_cons_zero, List.set_cons_succ, List.getElem_toArray, List.getElem_cons_zero, List.getElem_cons_succ])
    refine wpAnyH_take (i := 4) (oi := _) (v := ?_) rfl (by kernel_rfl) (by kernel_rfl) (by kernel_rfl) (fun _ _ _ h => h) (Or.inl ⟨by rfl, ?_⟩) (by assumption) ?_
    rotate_left
    · intro w hSw
      try dsimp only at hSw
      go_simp
      try with_reducible rfl
    (try simp only [Act.put, List.setIfInBounds_toArray, List.set_cons_zero, List.set_cons_succ, List.getElem_toArray, List.getElem_cons_zero, List.getElem_cons_succ])
    refine wpAnyH_take (i := 5) (oi := _) (v := ?_) rfl (by kernel_rfl) (by kernel_rfl) (by kernel_rfl) (fun _ _ _ h => h) (Or.inl ⟨by rfl, ?_⟩) (by assumption) ?_
    rotate_left
    · intro w hSw
      try dsimp only at hSw
      go_simp
      try with_reducible rfl
    (try simp only [Act.put, List.setIfInBounds_toArray, List.set_cons_zero, List.set_cons_succ, List.getElem_toArray, List.getElem_cons_zero, List.getElem_cons_succ])
    refine wpAnyH_take (i := 6) (oi := _) (v := ?_) rfl (by kernel_rfl) (by kernel_rfl) (by kernel_rfl) (fun _ _ _ h => h) (Or.inl ⟨by rfl, ?_⟩) (by assumption) ?_
    rotate_left
    · intro w hSw
      try dsimp only at hSw
      go_simp
      try with_reducible rfl
    (try simp only [Act.put, List.setIfInBounds_toArray, List.set_cons_zero, List.set_cons_succ, List.getElem_toArray, List.getElem_cons_zero, List.getElem_cons_succ])
    refine wpAnyH_take (i := 7) (oi := _) (v := ?_) rfl (by kernel_rfl) (by kernel_rfl) (by kernel_rfl) (fun _ _ _ h => h) (Or.inl ⟨by rfl, ?_⟩) (by assumption) ?_
    rotate_left
    · intro w hSw
      try dsimp only at hSw
      go_simp
      try with_reducible rfl
    (try simp only [Act.put, List.setIfInBounds_toArray, List.set_cons_zero, List.set_cons_succ, List.getElem_toArray, List.getElem_cons_zero, List.getElem_cons_succ])
    refine wpAnyH_take (i := 8) (oi := _) (v := ?_) rfl (by kernel_rfl) (by kernel_rfl) (by kernel_rfl) (fun _ _ _ h => h) (Or.inl ⟨by rfl, ?_⟩) (by assumption) ?_
    rotate_left
    · intro w hSw
      try dsimp only at hSw
      go_simp
      try with_reducible rfl
    (try simp only [Act.put, List.setIfInBounds_toArray, List.set_cons_zero, List.set_cons_succ, List.getElem_toArray, List.getElem_cons_zero, List.getElem_cons_succ])
    refine wpAnyH_take (i := 9) (oi := _) (v := ?_) rfl (by kernel_rfl) (by kernel_rfl) (by kernel_rfl) (fun _ _ _ h => h) (Or.inl ⟨by rfl, ?_⟩) (by assumption) ?_
    rotate_left
    · intro w hSw
      try dsimp only at hSw
      go_simp
      try with_reducible rfl
    (try simp only [Act.put, List.setIfInBounds_toArray, List.set_cons_zero, List.set_cons_succ, List.getElem_toArray, List.getElem_cons_zero, List.getElem_cons_succ])
    refine wpAnyH_take (i := 10) (oi := _) (v := ?_) rfl (by kernel_rfl) (by kernel_rfl) (by kernel_rfl) (fun _ _ _ h => h) (Or.inl ⟨by rfl, ?_⟩) (by assumption) ?_
    rotate_left
    · intro w hSw
      try dsimp only at hSw
      go_simp
      try with_reducible rfl
    (try simp only [Act.put, List.setIfInBounds_toArray, List.set_cons_zero, List.set_cons_succ, List.getElem_toArray, List.getElem_cons_zero, List.getElem_cons_succ])
    refine wpAnyH_take (i := 11) (oi := _) (v := ?_) rfl (by kernel_rfl) (by kernel_rfl) (by kernel_rfl) (fun _ _ _ h => h) (Or.inl ⟨by rfl, ?_⟩) (by assumption) ?_
    rotate_left
    · intro w hSw
      try dsimp only at hSw
      go_simp
      try with_reducible rfl
    (try simp only [Act.put, List.setIfInBounds_toArray, List.set_cons_zero, List.set_cons_succ, List.getElem_toArray, List.getElem_cons_zero, List.getElem_cons_succ])
    refine wpAnyH_take (i := 12) (oi := _) (v := ?_) rfl (by kernel_rfl) (by kernel_rfl) (by kernel_rfl) (fun _ _ _ h => h) (Or.inl ⟨by rfl, ?_⟩) (by assumption) ?_
    rotate_left
    · intro w hSw
      try dsimp only at hSw
      go_simp
      try with_reducible rfl
    (try simp only [Act.put, List.setIfInBounds_toArray, List.set_cons_zero, List.set_cons_succ, List.getElem_toArray, List.getElem_cons_zero, List.getElem_cons_succ])
    refine wpAnyH_ready (rs := [13]) (by kernel_rfl) (by simp) ?_
    refine AllReadyH.cons (o := _) rfl (fun K hK => ?_) AllReadyH.nil
    go_simp
    refine (HW.out _).mono ?_
    rintro e w2 ⟨rfl, hc0⟩
    refine hK.out _ _ (⟨(hc0.cell (p := ⟨w.heap.size, 1, none⟩) hltA).trans k1, (hc0.cell (p := ⟨w.heap.size, 2, none⟩) hltA).trans k2, (hc0.cell (p := ⟨w1.heap.size, 0, none⟩) hltB).trans l0, (hc0.cell (p := ⟨w1.heap.size, 1, none⟩) hltB).trans l1, (hc0.cell (p := ⟨w1.heap.size, 2, none⟩) hltB).trans l2, (hc0.cell (p := ⟨w1.heap.size, 3, none⟩) hltB).trans l3, (hc0.cell (p := ⟨w1.heap.size, 4, none⟩) hltB).trans l4⟩) (fun hHeld => ?_)
    clear hK K
    (try simp only [Act.put, List.setIfInBounds_toArray, List.set_cons_zero, List.set_cons_succ, List.getElem_toArray, List.getElem_cons_zero, List.getElem_cons_succ])
    refine wpAnyH_take (i := 14) (oi := _) (v := ?_) rfl (by kernel_rfl) (by kernel_rfl) (by kernel_rfl) (fun _ _ _ h => h) (Or.inl ⟨by rfl, ?_⟩) (by assumption) ?_
    rotate_left
    · intro w hSw
      try dsimp only at hSw
      go_simp
      try with_reducible rfl
    (try simp only [Act.put, List.setIfInBounds_toArray, List.set_cons_zero, List.set_cons_succ, List.getElem_toArray, List.getElem_cons_zero, List.getElem_cons_succ])
    refine wpAnyH_take (i := 15) (oi := _) (v := ?_) rfl (by kernel_rfl) (by kernel_rfl) (by kernel_rfl) (fun _ _ _ h => h) (Or.inl ⟨by rfl, ?_⟩) (by assumption) ?_
    rotate_left
    · intro w hSw
      try dsimp only at hSw
      go_simp
      try with_reducible rfl
    (try simp only [Act.put, List.setIfInBounds_toArray, List.set_cons_zero, List.set_cons_succ, List.getElem_toArray, List.getElem_cons_zero, List.getElem_cons_succ])
    refine wpAnyH_take (i := 16) (oi := _) (v := ?_) rfl (by kernel_rfl) (by kernel_rfl) (by kernel_rfl) (fun _ _ _ h => h) (Or.inl ⟨by rfl, ?_⟩) (by assumption) ?_
    rotate_left
    · intro w hSw
      try dsimp only at hSw
      go_simp
      try with_reducible rfl
    (try simp only [Act.put, List.setIfInBounds_toArray, List.set_cons_zero, List.set_cons_succ, List.getElem_toArray, List.getElem_cons_zero, List.getElem_cons_succ])
    refine wpAnyH_take (i := 17) (oi := _) (v := undef) rfl (by kernel_rfl) (by kernel_rfl) (by kernel_rfl) (fun _ _ _ h => h) (Or.inr ⟨by rfl, rfl⟩) (by assumption) ?_
    (try simp only [Act.put, List.setIfInBounds_toArray, List.set_cons_zero, List.set_cons_succ, List.getElem_toArray, List.getElem_cons_zero, List.getElem_cons_succ])
    refine wpAnyH_take (i := 18) (oi := _) (v := undef) rfl (by kernel_rfl) (by kernel_rfl) (by kernel_rfl) (fun _ _ _ h => h) (Or.inr ⟨by rfl, rfl⟩) (by assumption) ?_
    (try simp only [Act.put, List.setIfInBounds_toArray, List.set_cons_zero, List.set_cons_succ, List.getElem_toArray, List.getElem_cons_zero, List.getElem_cons_succ])
    refine wpAnyH_take (i := 19) (oi := _) (v := undef) rfl (by kernel_rfl) (by kernel_rfl) (by kernel_rfl) (fun _ _ _ h => h) (Or.inr ⟨by rfl, rfl⟩) (by assumption) ?_
    (try simp only [Act.put, List.setIfInBounds_toArray, List.set_cons_zero, List.set_cons_succ, List.getElem_toArray, List.getElem_cons_zero, List.getElem_cons_succ])
    refine wpAnyH_take (i := 20) (oi := _) (v := ?_) rfl (by kernel_rfl) (by kernel_rfl) (by kernel_rfl) (fun _ _ _ h => h) (Or.inl ⟨by rfl, ?_⟩) (by assumption) ?_
    rotate_left
    · intro w hSw
      try dsimp only at hSw
      go_simp
      try with_reducible rfl
    (try simp only [Act.put, List.setIfInBounds_toArray, List.set_cons_zero, List.set_cons_succ, List.getElem_toArray, List.getElem_cons_zero, List.getElem_cons_succ])
    refine wpAnyH_take (i := 21) (oi := _) (v := ?_) rfl (by kernel_rfl) (by kernel_rfl) (by kernel_rfl) (fun _ _ _ h => h) (Or.inl ⟨by rfl, ?_⟩) (by assumption) ?_
    rotate_left
    · intro w hSw
      try dsimp only at hSw
      go_simp
      try with_reducible rfl
    (try simp only [Act.put, List.setIfInBounds_toArray, List.set_cons_zero, List.set_cons_succ, List.getElem_toArray, List.getElem_cons_zero, List.getElem_cons_succ])
    refine wpAnyH_done (by kernel_rfl) ?_ _
    go_wp2
    go_ret
    exact ⟨by rw [show t = false from Bool.eq_false_iff.2 fun e => c3 (Ht.out.1 e).2.2.1]; rfl, hBB.drew.trans (hc0.mono hBB.size)⟩
  have hq3 : decide (x.d0 = e0 ∧ x.d1 = e1 ∧ x.d2 = e2 ∧ x.d3 = e3 ∧ x.i = e4) = true := decide_eq_true (HE.out.2 c3)
  simp only [hq3] at HQ
  have HT := Lib.hid fun W (h : U16s W (.slice (some ⟨w1.heap.size, 0, none⟩) 5 5) x.bl) => twice_any x.bl _ W h (bl_lt hf) (by simp [Im.bl])
  have hto : t = !(decide (¬ once x.bl)) := by
    by_cases ho : once x.bl
    · simp [ho, Ht.out.2 ⟨c1, c2, c3, ho⟩]
    · simp [ho, Bool.eq_false_iff.2 fun e => ho (Ht.out.1 e).2.2.2]
  have Hto := Lib.hid hto
  clear hto
  generalize decide (¬ once x.bl) = o at *
  refine wp_region_held_drew (S := (fun W => W.cell? ⟨w.heap.size, 1, none⟩ = some (w16 x.n) ∧ W.cell? ⟨w.heap.size, 2, none⟩ = some (.int .u32 x.z) ∧ W.cell? ⟨w1.heap.size, 0, none⟩ = some (w16 x.d0) ∧ W.cell? ⟨w1.heap.size, 1, none⟩ = some (w16 x.d1) ∧ W.cell? ⟨w1.heap.size, 2, none⟩ = some (w16 x.d2) ∧ W.cell? ⟨w1.heap.size, 3, none⟩ = some (w16 x.d3) ∧ W.cell? ⟨w1.heap.size, 4, none⟩ = some (w16 x.i))) (by kernel_rfl) (⟨k1, k2, l0, l1, l2, l3, l4⟩) (fun hHeld => ?_)
  refine wpAnyH_take (i := 0) (oi := _) (v := ?_) rfl (by kernel_rfl) (by kernel_rfl) (by kernel_rfl) (fun _ _ _ h => h) (Or.inl ⟨by rfl, ?_⟩) (by assumption) ?_
  rotate_left
  · intro w hSw
    try dsimp only at hSw
    go_simp
    try with_reducible rfl
  (try simp only [Act.put, List.setIfInBounds_toArray, List.set_cons_zero, List.set_cons_succ, List.getElem_toArray, List.getElem_cons_zero, List.getElem_cons_succ])
  refine wpAnyH_take (i := 1) (oi := _) (v := ?_) rfl (by kernel_rfl) (by kernel_rfl) (by kernel_rfl) (fun _ _ _ h => h) (Or.inl ⟨by rfl, ?_⟩) (by assumption) ?_
  rotate_left
  · intro w hSw
    try dsimp only at hSw
    go_simp
    try with_reducible rfl
  (try simp only [Act.put, List.setIfInBounds_toArray, List.set_cons_zero, List.set_cons_succ, List.getElem_toArray, List.getElem_cons_zero, List.getElem_cons_succ])
  refine wpAnyH_take (i := 2) (oi := _) (v := ?_) rfl (by kernel_rfl) (by kernel_rfl) (by kernel_rfl) (fun _ _ _ h => h) (Or.inl ⟨by rfl, ?_⟩) (by assumption) ?_
  rotate_left
  · intro w hSw
    try dsimp only at hSw
    go_simp
    try with_reducible rfl
  (try simp only [Act.put, List.setIfInBounds_toArray, List.set_cons_zero, List.set_cons_succ, List.getElem_toArray, List.getElem_cons_zero, List.getElem_cons_succ])
  refine wpAnyH_take (i := 3) (oi := _) (v := ?_) rfl (by kernel_rfl) (by kernel_rfl) (by kernel_rfl) (fun _ _ _ h => h) (Or.inl ⟨by rfl, ?_⟩) (by assumption) ?_
  rotate_left
  · intro w hSw
    try dsimp only at hSw
    go_simp
    try with_reducible rfl
  (try simp only [Act.put, List.setIfInBounds_toArray, List.set_cons_zero, List.set_cons_succ, List.getElem_toArray, List.getElem_cons_zero, List.getElem_cons_succ])
  refine wpAnyH_take (i := 4) (oi := _) (v := ?_) rfl (by kernel_rfl) (by kernel_rfl) (by kernel_rfl) (fun _ _ _ h => h) (Or.inl ⟨by rfl, ?_⟩) (by assumption) ?_
  rotate_left
  · intro w hSw
    try dsimp only at hSw
    go_simp
    try with_reducible rfl
  (try simp only [Act.put, List.setIfInBounds_toArray, List.set_cons_zero, List.set_cons_succ, List.getElem_toArray, List.getElem_cons_zero, List.getElem_cons_succ])
  refine wpAnyH_take (i := 5) (oi := _) (v := ?_) rfl (by kernel_rfl) (by kernel_rfl) (by kernel_rfl) (fun _ _ _ h => h) (Or.inl ⟨by rfl, ?_⟩) (by assumption) ?_
  rotate_left
  · intro w hSw
    try dsimp only at hSw
    go_simp
    try with_reducible rfl
  (try simp only [Act.put, List.setIfInBounds_toArray, List.set_cons_zero, List.set_cons_succ, List.getElem_toArray, List.getElem_cons_zero, List.getElem_cons_succ])
  refine wpAnyH_take (i := 6) (oi := _) (v := ?_) rfl (by kernel_rfl) (by kernel_rfl) (by kernel_rfl) (fun _ _ _ h => h) (Or.inl ⟨by rfl, ?_⟩) (by assumption) ?_
  rotate_left
  · intro w hSw
    try dsimp only at hSw
    go_simp
    try with_reducible rfl
  (try simp only [Act.put, List.setIfInBounds_toArray, List.set_cons_zero, List.set_cons_succ, List.getElem_toArray, List.getElem_cons_zero, List.getElem_cons_succ])
  refine wpAnyH_take (i := 7) (oi := _) (v := ?_) rfl (by kernel_rfl) (by kernel_rfl) (by kernel_rfl) (fun _ _ _ h => h) (Or.inl ⟨by rfl, ?_⟩) (by assumption) ?_
  rotate_left
  · intro w hSw
    try dsimp only at hSw
    go_simp
    try with_reducible rfl
  (try simp only [Act.put, List.setIfInBounds_toArray, List.set_cons_zero, List.set_cons_succ, List.getElem_toArray, List.getElem_cons_zero, List.getElem_cons_succ])
  refine wpAnyH_take (i := 8) (oi := _) (v := ?_) rfl (by kernel_rfl) (by kernel_rfl) (by kernel_rfl) (fun _ _ _ h => h) (Or.inl ⟨by rfl, ?_⟩) (by assumption) ?_
  rotate_left
  · intro w hSw
    try dsimp only at hSw
    go_simp
    try with_reducible rfl
  (try simp only [Act.put, List.setIfInBounds_toArray, List.set_cons_zero, List.set_cons_succ, List.getElem_toArray, List.getElem_cons_zero, List.getElem_cons_succ])
  refine wpAnyH_take (i := 9) (oi := _) (v := ?_) rfl (by kernel_rfl) (by kernel_rfl) (by kernel_rfl) (fun _ _ _ h => h) (Or.inl ⟨by rfl, ?_⟩) (by assumption) ?_
  rotate_left
  · intro w hSw
    try dsimp only at hSw
    go_simp
    try with_reducible rfl
  (try simp only [Act.put, List.setIfInBounds_toArray, List.set_cons_zero, List.set_cons_succ, List.getElem_toArray, List.getElem_cons_zero, List.getElem_cons_succ])
  refine wpAnyH_take (i := 10) (oi := _) (v := ?_) rfl (by kernel_rfl) (by kernel_rfl) (by kernel_rfl) (fun _ _ _ h => h) (Or.inl ⟨by rfl, ?_⟩) (by assumption) ?_
  rotate_left
  · intro w hSw
    try dsimp only at hSw
    go_simp
    try with_reducible rfl
  (try simp only [Act.put, List.setIfInBounds_toArray, List.set_cons_zero, List.set_cons_succ, List.getElem_toArray, List.getElem_cons_zero, List.getElem_cons_succ])
  refine wpAnyH_take (i := 11) (oi := _) (v := ?_) rfl (by kernel_rfl) (by kernel_rfl) (by kernel_rfl) (fun _ _ _ h => h) (Or.inl ⟨by rfl, ?_⟩) (by assumption) ?_
  rotate_left
  · intro w hSw
    try dsimp only at hSw
    go_simp
    try with_reducible rfl
  (try simp only [Act.put, List.setIfInBounds_toArray, List.set_cons_zero, List.set_cons_succ, List.getElem_toArray, List.getElem_cons_zero, List.getElem_cons_succ])
  refine wpAnyH_take (i := 12) (oi := _) (v := ?_) rfl (by kernel_rfl) (by kernel_rfl) (by kernel_rfl) (fun _ _ _ h => h) (Or.inl ⟨by rfl, ?_⟩) (by assumption) ?_
  rotate_left
  · intro w hSw
    try dsimp only at hSw
    go_simp
    try with_reducible rfl
  (try simp only [Act.put, List.setIfInBounds_toArray, List.set_cons_zero, List.set_cons_succ, List.getElem_toArray, List.getElem_cons_zero, List.getElem_cons_succ])
  refine wpAnyH_ready (rs := [13]) (by kernel_rfl) (by simp) ?_
  refine AllReadyH.cons (o := _) rfl (fun K hK => ?_) AllReadyH.nil
  go_simp
  refine (HW.out _).mono ?_
  rintro e w2 ⟨rfl, hc0⟩
  refine hK.out _ _ (⟨(hc0.cell (p := ⟨w.heap.size, 1, none⟩) hltA).trans k1, (hc0.cell (p := ⟨w.heap.size, 2, none⟩) hltA).trans k2, (hc0.cell (p := ⟨w1.heap.size, 0, none⟩) hltB).trans l0, (hc0.cell (p := ⟨w1.heap.size, 1, none⟩) hltB).trans l1, (hc0.cell (p := ⟨w1.heap.size, 2, none⟩) hltB).trans l2, (hc0.cell (p := ⟨w1.heap.size, 3, none⟩) hltB).trans l3, (hc0.cell (p := ⟨w1.heap.size, 4, none⟩) hltB).trans l4⟩) (fun hHeld => ?_)
  clear hK K
  (try simp only [Act.put, List.setIfInBounds_toArray, List.set_cons_zero, List.set_cons_succ, List.getElem_toArray, List.getElem_cons_zero, List.getElem_cons_succ])
  refine wpAnyH_take (i := 14) (oi := _) (v := ?_) rfl (by kernel_rfl) (by kernel_rfl) (by kernel_rfl) (fun _ _ _ h => h) (Or.inl ⟨by rfl, ?_⟩) (by assumption) ?_
  rotate_left
  · intro w hSw
    try dsimp only at hSw
    go_simp
    try with_reducible rfl
  (try simp only [Act.put, List.setIfInBounds_toArray, List.set_cons_zero, List.set_cons_succ, List.getElem_toArray, List.getElem_cons_zero, List.getElem_cons_succ])
  refine wpAnyH_take (i := 15) (oi := _) (v := ?_) rfl (by kernel_rfl) (by kernel_rfl) (by kernel_rfl) (fun _ _ _ h => h) (Or.inl ⟨by rfl, ?_⟩) (by assumption) ?_
  rotate_left
  · intro w hSw
    try dsimp only at hSw
    go_simp
    try with_reducible rfl
  (try simp only [Act.put, List.setIfInBounds_toArray, List.set_cons_zero, List.set_cons_succ, List.getElem_toArray, List.getElem_cons_zero, List.getElem_cons_succ])
  refine wpAnyH_take (i := 16) (oi := _) (v := ?_) rfl (by kernel_rfl) (by kernel_rfl) (by kernel_rfl) (fun _ _ _ h => h) (Or.inl ⟨by rfl, ?_⟩) (by assumption) ?_
  rotate_left
  · intro w hSw
    try dsimp only at hSw
    go_simp
    try with_reducible rfl
  (try simp only [Act.put, List.setIfInBounds_toArray, List.set_cons_zero, List.set_cons_succ, List.getElem_toArray, List.getElem_cons_zero, List.getElem_cons_succ])
  refine wpAnyH_take (i := 17) (oi := _) (v := ?_) rfl (by kernel_rfl) (by kernel_rfl) (by kernel_rfl) (fun _ _ _ h => h) (Or.inl ⟨by rfl, ?_⟩) (by assumption) ?_
  rotate_left
  · intro w hSw
    try dsimp only at hSw
    go_simp
    try with_reducible rfl
  (try simp only [Act.put, List.setIfInBounds_toArray, List.set_cons_zero, List.set_cons_succ, List.getElem_toArray, List.getElem_cons_zero, List.getElem_cons_succ])
  refine wpAnyH_ready (rs := [18]) (by kernel_rfl) (by simp) ?_
  refine AllReadyH.cons (o := _) rfl (fun K hK => ?_) AllReadyH.nil
  go_simp
  refine (HT.out _ (u16s_row ((hc0.block _ hltB).trans hl.out) rfl (bl_at x _ _ _ _ _ rfl rfl rfl rfl rfl))).mono ?_
  rintro e w3 ⟨rfl, hc2⟩
  have hc1 := hc0.trans (hc2.mono hc0.size)
  refine hK.out _ _ (⟨(hc1.cell (p := ⟨w.heap.size, 1, none⟩) hltA).trans k1, (hc1.cell (p := ⟨w.heap.size, 2, none⟩) hltA).trans k2, (hc1.cell (p := ⟨w1.heap.size, 0, none⟩) hltB).trans l0, (hc1.cell (p := ⟨w1.heap.size, 1, none⟩) hltB).trans l1, (hc1.cell (p := ⟨w1.heap.size, 2, none⟩) hltB).trans l2, (hc1.cell (p := ⟨w1.heap.size, 3, none⟩) hltB).trans l3, (hc1.cell (p := ⟨w1.heap.size, 4, none⟩) hltB).trans l4⟩) (fun hHeld => ?_)
  clear hK K
  (try simp only [Act.put, List.setIfInBounds_toArray, List.set_cons_zero, List.set_cons_succ, List.getElem_toArray, List.getElem_cons_zero, List.getElem_cons_succ])
  refine wpAnyH_take (i := 19) (oi := _) (v := ?_) rfl (by kernel_rfl) (by kernel_rfl) (by kernel_rfl) (fun _ _ _ h => h) (Or.inl ⟨by rfl, ?_⟩) (by assumption) ?_
  rotate_left
  · intro w hSw
    try dsimp only at hSw
    go_simp
    try with_reducible rfl
  (try simp only [Act.put, List.setIfInBounds_toArray, List.set_cons_zero, List.set_cons_succ, List.getElem_toArray, List.getElem_cons_zero, List.getElem_cons_succ])
  refine wpAnyH_take (i := 20) (oi := _) (v := ?_) rfl (by kernel_rfl) (by kernel_rfl) (by kernel_rfl) (fun _ _ _ h => h) (Or.inl ⟨by rfl, ?_⟩) (by assumption) ?_
  rotate_left
  · intro w hSw
    try dsimp only at hSw
    go_simp
    try with_reducible rfl
  (try simp only [Act.put, List.setIfInBounds_toArray, List.set_cons_zero, List.set_cons_succ, List.getElem_toArray, List.getElem_cons_zero, List.getElem_cons_succ])
  refine wpAnyH_take (i := 21) (oi := _) (v := ?_) rfl (by kernel_rfl) (by kernel_rfl) (by kernel_rfl) (fun _ _ _ h => h) (Or.inl ⟨by rfl, ?_⟩) (by assumption) ?_
  rotate_left
  · intro w hSw
    try dsimp only at hSw
    go_simp
    try with_reducible rfl
  (try simp only [Act.put, List.setIfInBounds_toArray, List.set_cons_zero, List.set_cons_succ, List.getElem_toArray, List.getElem_cons_zero, List.getElem_cons_succ])
  refine wpAnyH_done (by kernel_rfl) ?_ _
  go_wp2
  go_ret
  exact ⟨by rw [Hto.out]; rfl, hBB.drew.trans (hc1.mono hBB.size)⟩
set_option maxHeartbeats 4000000 in
theorem valid_dirs (x : Im) (hf : x.fits) (h : x.k = 2 ∧ x.z % 64 = 0) (w : World) (t : Bool) (ht : t = true ↔ x.n ≤ 200 ∧ x.z ≤ 2304 ∧ inside x.z x.bl ∧ once x.bl) :
    Calls Tryz.prog 151 #[x.v] w fun e w' => e = .returned (.bool t) ∧ Below w.heap.size w w' := by
  have Ht := Lib.hid ht
  clear ht
  have hk : ((x.k : Int) == 0) = false := by simp; omega
  have hk1 : ((x.k : Int) == 1) = false := by simp; omega
  have hk2 : ((x.k : Int) == 2) = true := by simp; omega
  have hm : ((x.z : Int) % 64 != 0) = false := by simp; omega
  have HN := Lib.hid fun W => named_any x W
  have Hh := Lib.hid h
  clear h
  go_enter Tryz.func151, Tryz.ntmps151
  go_wp2_with fail
  refine (HN.out _).mono ?_
  rintro e w1 ⟨rfl, hb1⟩
  have hx : w1.heap[w.heap.size]? = some (.cells #[.int .u8 x.k, w16 x.n, .int .u32 x.z, w16 x.d0, w16 x.d1, w16 x.d2, w16 x.d3, w16 x.i] 41 (0, 0)) := (hb1.block w.heap.size (by simp)).trans (heap_alloc_new _ _)
  have hlt1 : w.heap.size < w1.heap.size := row_lt' hx
  have hxn : w1.cell? ⟨w.heap.size, 1, none⟩ = some (w16 x.n) := cell_of_row _ _ 1 _ _ (0, 0) hx
  have hxz : w1.cell? ⟨w.heap.size, 2, none⟩ = some (.int .u32 x.z) := cell_of_row _ _ 2 _ _ (0, 0) hx
  have Hx := Lib.hid hx
  have Hb1 := Lib.hid hb1
  clear hx hb1
  go_wp2_with fail
  have hl := Lib.hid (heap_alloc_new w1 (.cells #[.int .u16 x.d0, .int .u16 x.d1, .int .u16 x.d2, .int .u16 x.d3, .int .u16 x.i] 170))
  have l0 := cell_of_row _ _ 0 _ _ (0, 0) hl.out
  have l1 := cell_of_row _ _ 1 _ _ (0, 0) hl.out
  have l2 := cell_of_row _ _ 2 _ _ (0, 0) hl.out
  have l3 := cell_of_row _ _ 3 _ _ (0, 0) hl.out
  have l4 := cell_of_row _ _ 4 _ _ (0, 0) hl.out
  simp only [List.getElem?_toArray, List.getElem?_cons_zero, List.getElem?_cons_succ] at l0 l1 l2 l3 l4
  have C := Lib.hid ((Below.refl w1.heap.size w1).alloc (Nat.le_refl _) (.cells #[.int .u16 x.d0, .int .u16 x.d1, .int .u16 x.d2, .int .u16 x.d3, .int .u16 x.i] 170))
  have k1 := (C.out.cell (p := ⟨w.heap.size, 1, none⟩) hlt1).trans hxn
  have k2 := (C.out.cell (p := ⟨w.heap.size, 2, none⟩) hlt1).trans hxz
  have hltA : w.heap.size < (w1.alloc (.cells #[.int .u16 x.d0, .int .u16 x.d1, .int .u16 x.d2, .int .u16 x.d3, .int .u16 x.i] 170)).heap.size := by simp; omega
  have hltB : w1.heap.size < (w1.alloc (.cells #[.int .u16 x.d0, .int .u16 x.d1, .int .u16 x.d2, .int .u16 x.d3, .int .u16 x.i] 170)).heap.size := by simp
  generalize w1.alloc (.cells #[.int .u16 x.d0, .int .u16 x.d1, .int .u16 x.d2, .int .u16 x.d3, .int .u16 x.i] 170) = W2 at *
  have hBB := (((Below.refl w.heap.size w).alloc (Nat.le_refl _) (.cells #[.int .u8 x.k, w16 x.n, .int .u32 x.z, w16 x.d0, w16 x.d1, w16 x.d2, w16 x.d3, w16 x.i] 41)).trans (Hb1.out.mono (by simp))).trans (C.out.mono (by omega))
  by_cases c1 : x.n ≤ 200
  case neg =>
    have q1 : decide ((x.n : Int) ≤ 200) = false := by simp; omega
    go_quiet (fail)
    go_wp2
    go_ret
    exact ⟨by rw [show t = false from Bool.eq_false_iff.2 fun e => c1 (Ht.out.1 e).1]; rfl, below_drewN hBB _⟩
  have q1 : decide ((x.n : Int) ≤ 200) = true := by simp; omega
  by_cases c2 : x.z ≤ 2304
  case neg =>
    have q2 : decide ((x.z : Int) ≤ 2304) = false := by simp; omega
    go_quiet (fail)
    go_wp2
    go_ret
    exact ⟨by rw [show t = false from Bool.eq_false_iff.2 fun e => c2 (Ht.out.1 e).2.1]; rfl, below_drewN hBB _⟩
  have q2 : decide ((x.z : Int) ≤ 2304) = true := by simp; omega
  have HW := Lib.hid fun W => iWithin_any x.d0 x.d1 x.d2 x.d3 x.i x.z W (by omega)
  have HE := Lib.hid (kept_inside x.z x.d0 x.d1 x.d2 x.d3 x.i)
  have HQ := fun W => eq_five_nat x.d0 x.d1 x.d2 x.d3 x.i (if 0 < pagesN x.z then x.d0 else 0) (if 1 < pagesN x.z then x.d1 else 0) (if 2 < pagesN x.z then x.d2 else 0) (if 3 < pagesN x.z then x.d3 else 0) (if 4 < pagesN x.z then x.i else 0) W
  unfold keptL at HW
  generalize (if 0 < pagesN x.z then x.d0 else 0) = e0 at *
  generalize (if 1 < pagesN x.z then x.d1 else 0) = e1 at *
  generalize (if 2 < pagesN x.z then x.d2 else 0) = e2 at *
  generalize (if 3 < pagesN x.z then x.d3 else 0) = e3 at *
  generalize (if 4 < pagesN x.z then x.i else 0) = e4 at *
  by_cases c3 : inside x.z x.bl
  case neg =>
    have hq3 : decide (x.d0 = e0 ∧ x.d1 = e1 ∧ x.d2 = e2 ∧ x.d3 = e3 ∧ x.i = e4) = false := decide_eq_false fun e => c3 (HE.out.1 e)
    simp only [hq3] at HQ
    refine wp_region_held_drew (S := (fun W => W.cell? ⟨w.heap.size, 1, none⟩ = some (w16 x.n) ∧ W.cell? ⟨w.heap.size, 2, none⟩ = some (.int .u32 x.z) ∧ W.cell? ⟨w1.heap.size, 0, none⟩ = some (w16 x.d0) ∧ W.cell? ⟨w1.heap.size, 1, none⟩ = some (w16 x.d1) ∧ W.cell? ⟨w1.heap.size, 2, none⟩ = some (w16 x.d2) ∧ W.cell? ⟨w1.heap.size, 3, none⟩ = some (w16 x.d3) ∧ W.cell? ⟨w1.heap.size, 4, none⟩ = some (w16 x.i))) (by kernel_rfl) (⟨k1, k2, l0, l1, l2, l3, l4⟩) (fun hHeld => ?_)
    refine wpAnyH_take (i := 0) (oi := _) (v := ?_) rfl (by kernel_rfl) (by kernel_rfl) (by kernel_rfl) (fun _ _ _ h => h) (Or.inl ⟨by rfl, ?_⟩) (by assumption) ?_
    rotate_left
    · intro w hSw
      try dsimp only at hSw
      go_simp
      try with_reducible rfl
    (try simp only [Act.put, List.setIfInBounds_toArray, List.set_cons_zero, List.set_cons_succ, List.getElem_toArray, List.getElem_cons_zero, List.getElem_cons_succ])
    refine wpAnyH_take (i := 1) (oi := _) (v := ?_) rfl (by kernel_rfl) (by kernel_rfl) (by kernel_rfl) (fun _ _ _ h => h) (Or.inl ⟨by rfl, ?_⟩) (by assumption) ?_
    rotate_left
    · intro w hSw
      try dsimp only at hSw
      go_simp
      try with_reducible rfl
    (try simp only [Act.put, List.setIfInBounds_toArray, List.set_cons_zero, List.set_cons_succ, List.getElem_toArray, List.getElem_cons_zero, List.getElem_cons_succ])
    refine wpAnyH_take (i := 2) (oi := _) (v := ?_) rfl (by kernel_rfl) (by kernel_rfl) (by kernel_rfl) (fun _ _ _ h => h) (Or.inl ⟨by rfl, ?_⟩) (by assumption) ?_
    rotate_left
    · intro w hSw
      try dsimp only at hSw
      go_simp
      try with_reducible rfl
    (try simp only [Act.put, List.setIfInBounds_toArray, List.set_cons_zero, List.set_cons_succ, List.getElem_toArray, List.getElem_cons_zero, List.getElem_cons_succ])
    refine wpAnyH_take (i := 3) (oi := _) (v := ?_) rfl (by kernel_rfl) (by kernel_rfl) (by kernel_rfl) (fun _ _ _ h => h) (Or.inl ⟨by rfl, ?_⟩) (by assumption) ?_
    rotate_left
    · intro w hSw
      try dsimp only at hSw
      go_simp
      try with_reducible rfl
    (try simp only [Act.put, List.setIfInBounds_toArray, List.set_cons_zero, List.set_cons_succ, List.getElem_toArray, List.getElem_cons_zero, List.getElem_cons_succ])
    refine wpAnyH_take (i := 4) (oi := _) (v := ?_) rfl (by kernel_rfl) (by kernel_rfl) (by kernel_rfl) (fun _ _ _ h => h) (Or.inl ⟨by rfl, ?_⟩) (by assumption) ?_
    rotate_left
    · intro w hSw
      try dsimp only at hSw
      go_simp
      try with_reducible rfl
    (try simp only [Act.put, List.setIfInBounds_toArray, List.set_cons_zero, List.set_cons_succ, List.getElem_toArray, List.getElem_cons_zero, List.getElem_cons_succ])
    refine wpAnyH_take (i := 5) (oi := _) (v := ?_) rfl (by kernel_rfl) (by kernel_rfl) (by kernel_rfl) (fun _ _ _ h => h) (Or.inl ⟨by rfl, ?_⟩) (by assumption) ?_
    rotate_left
    · intro w hSw
      try dsimp only at hSw
      go_simp
      try with_reducible rfl
    (try simp only [Act.put, List.setIfInBounds_toArray, List.set_cons_zero, List.set_cons_succ, List.getElem_toArray, List.getElem_cons_zero, List.getElem_cons_succ])
    refine wpAnyH_take (i := 6) (oi := _) (v := ?_) rfl (by kernel_rfl) (by kernel_rfl) (by kernel_rfl) (fun _ _ _ h => h) (Or.inl ⟨by rfl, ?_⟩) (by assumption) ?_
    rotate_left
    · intro w hSw
      try dsimp only at hSw
      go_simp
      try with_reducible rfl
    (try simp only [Act.put, List.setIfInBounds_toArray, List.set_cons_zero, List.set_cons_succ, List.getElem_toArray, List.getElem_cons_zero, List.getElem_cons_succ])
    refine wpAnyH_take (i := 7) (oi := _) (v := ?_) rfl (by kernel_rfl) (by kernel_rfl) (by kernel_rfl) (fun _ _ _ h => h) (Or.inl ⟨by rfl, ?_⟩) (by assumption) ?_
    rotate_left
    · intro w hSw
      try dsimp only at hSw
      go_simp
      try with_reducible rfl
    (try simp only [Act.put, List.setIfInBounds_toArray, List.set_cons_zero, List.set_cons_succ, List.getElem_toArray, List.getElem_cons_zero, List.getElem_cons_succ])
    refine wpAnyH_take (i := 8) (oi := _) (v := ?_) rfl (by kernel_rfl) (by kernel_rfl) (by kernel_rfl) (fun _ _ _ h => h) (Or.inl ⟨by rfl, ?_⟩) (by assumption) ?_
    rotate_left
    · intro w hSw
      try dsimp only at hSw
      go_simp
      try with_reducible rfl
    (try simp only [Act.put, List.setIfInBounds_toArray, List.set_cons_zero, List.set_cons_succ, List.getElem_toArray, List.getElem_cons_zero, List.getElem_cons_succ])
    refine wpAnyH_take (i := 9) (oi := _) (v := ?_) rfl (by kernel_rfl) (by kernel_rfl) (by kernel_rfl) (fun _ _ _ h => h) (Or.inl ⟨by rfl, ?_⟩) (by assumption) ?_
    rotate_left
    · intro w hSw
      try dsimp only at hSw
      go_simp
      try with_reducible rfl
    (try simp only [Act.put, List.setIfInBounds_toArray, List.set_cons_zero, List.set_cons_succ, List.getElem_toArray, List.getElem_cons_zero, List.getElem_cons_succ])
    refine wpAnyH_take (i := 10) (oi := _) (v := ?_) rfl (by kernel_rfl) (by kernel_rfl) (by kernel_rfl) (fun _ _ _ h => h) (Or.inl ⟨by rfl, ?_⟩) (by assumption) ?_
    rotate_left
    · intro w hSw
      try dsimp only at hSw
      go_simp
      try with_reducible rfl
    (try simp only [Act.put, List.setIfInBounds_toArray, List.set_cons_zero, List.set_cons_succ, List.getElem_toArray, List.getElem_cons_zero, List.getElem_cons_succ])
    refine wpAnyH_take (i := 11) (oi := _) (v := ?_) rfl (by kernel_rfl) (by kernel_rfl) (by kernel_rfl) (fun _ _ _ h => h) (Or.inl ⟨by rfl, ?_⟩) (by assumption) ?_
    rotate_left
    · intro w hSw
      try dsimp only at hSw
      go_simp
      try with_reducible rfl
    (try simp only [Act.put, List.setIfInBounds_toArray, List.set_cons_zero, List.set_cons_succ, List.getElem_toArray, List.getElem_cons_zero, List.getElem_cons_succ])
    refine wpAnyH_take (i := 12) (oi := _) (v := ?_) rfl (by kernel_rfl) (by kernel_rfl) (by kernel_rfl) (fun _ _ _ h => h) (Or.inl ⟨by rfl, ?_⟩) (by assumption) ?_
    rotate_left
    · intro w hSw
      try dsimp only at hSw
      go_simp
      try with_reducible rfl
    (try simp only [Act.put, List.setIfInBounds_toArray, List.set_cons_zero, List.set_cons_succ, List.getElem_toArray, List.getElem_cons_zero, List.getElem_cons_succ])
    refine wpAnyH_ready (rs := [13]) (by kernel_rfl) (by simp) ?_
    refine AllReadyH.cons (o := _) rfl (fun K hK => ?_) AllReadyH.nil
    go_simp
    refine (HW.out _).mono ?_
    rintro e w2 ⟨rfl, hc0⟩
    refine hK.out _ _ (⟨(hc0.cell (p := ⟨w.heap.size, 1, none⟩) hltA).trans k1, (hc0.cell (p := ⟨w.heap.size, 2, none⟩) hltA).trans k2, (hc0.cell (p := ⟨w1.heap.size, 0, none⟩) hltB).trans l0, (hc0.cell (p := ⟨w1.heap.size, 1, none⟩) hltB).trans l1, (hc0.cell (p := ⟨w1.heap.size, 2, none⟩) hltB).trans l2, (hc0.cell (p := ⟨w1.heap.size, 3, none⟩) hltB).trans l3, (hc0.cell (p := ⟨w1.heap.size, 4, none⟩) hltB).trans l4⟩) (fun hHeld => ?_)
    clear hK K
    (try simp only [Act.put, List.setIfInBounds_toArray, List.set_cons_zero, List.set_cons_succ, List.getElem_toArray, List.getElem_cons_zero, List.getElem_cons_succ])
    refine wpAnyH_take (i := 14) (oi := _) (v := ?_) rfl (by kernel_rfl) (by kernel_rfl) (by kernel_rfl) (fun _ _ _ h => h) (Or.inl ⟨by rfl, ?_⟩) (by assumption) ?_
    rotate_left
    · intro w hSw
      try dsimp only at hSw
      go_simp
      try with_reducible rfl
    (try simp only [Act.put, List.setIfInBounds_toArray, List.set_cons_zero, List.set_cons_succ, List.getElem_toArray, List.getElem_cons_zero, List.getElem_cons_succ])
    refine wpAnyH_take (i := 15) (oi := _) (v := ?_) rfl (by kernel_rfl) (by kernel_rfl) (by kernel_rfl) (fun _ _ _ h => h) (Or.inl ⟨by rfl, ?_⟩) (by assumption) ?_
    rotate_left
    · intro w hSw
      try dsimp only at hSw
      go_simp
      try with_reducible rfl
    (try simp only [Act.put, List.setIfInBounds_toArray, List.set_cons_zero, List.set_cons_succ, List.getElem_toArray, List.getElem_cons_zero, List.getElem_cons_succ])
    refine wpAnyH_take (i := 16) (oi := _) (v := ?_) rfl (by kernel_rfl) (by kernel_rfl) (by kernel_rfl) (fun _ _ _ h => h) (Or.inl ⟨by rfl, ?_⟩) (by assumption) ?_
    rotate_left
    · intro w hSw
      try dsimp only at hSw
      go_simp
      try with_reducible rfl
    (try simp only [Act.put, List.setIfInBounds_toArray, List.set_cons_zero, List.set_cons_succ, List.getElem_toArray, List.getElem_cons_zero, List.getElem_cons_succ])
    refine wpAnyH_take (i := 17) (oi := _) (v := undef) rfl (by kernel_rfl) (by kernel_rfl) (by kernel_rfl) (fun _ _ _ h => h) (Or.inr ⟨by rfl, rfl⟩) (by assumption) ?_
    (try simp only [Act.put, List.setIfInBounds_toArray, List.set_cons_zero, List.set_cons_succ, List.getElem_toArray, List.getElem_cons_zero, List.getElem_cons_succ])
    refine wpAnyH_take (i := 18) (oi := _) (v := undef) rfl (by kernel_rfl) (by kernel_rfl) (by kernel_rfl) (fun _ _ _ h => h) (Or.inr ⟨by rfl, rfl⟩) (by assumption) ?_
    (try simp only [Act.put, List.setIfInBounds_toArray, List.set_cons_zero, List.set_cons_succ, List.getElem_toArray, List.getElem_cons_zero, List.getElem_cons_succ])
    refine wpAnyH_take (i := 19) (oi := _) (v := undef) rfl (by kernel_rfl) (by kernel_rfl) (by kernel_rfl) (fun _ _ _ h => h) (Or.inr ⟨by rfl, rfl⟩) (by assumption) ?_
    (try simp only [Act.put, List.setIfInBounds_toArray, List.set_cons_zero, List.set_cons_succ, List.getElem_toArray, List.getElem_cons_zero, List.getElem_cons_succ])
    refine wpAnyH_take (i := 20) (oi := _) (v := ?_) rfl (by kernel_rfl) (by kernel_rfl) (by kernel_rfl) (fun _ _ _ h => h) (Or.inl ⟨by rfl, ?_⟩) (by assumption) ?_
    rotate_left
    · intro w hSw
      try dsimp only at hSw
      go_simp
      try with_reducible rfl
    (try simp only [Act.put, List.setIfInBounds_toArray, List.set_cons_zero, List.set_cons_succ, List.getElem_toArray, List.getElem_cons_zero, List.getElem_cons_succ])
    refine wpAnyH_take (i := 21) (oi := _) (v := ?_) rfl (by kernel_rfl) (by kernel_rfl) (by kernel_rfl) (fun _ _ _ h => h) (Or.inl ⟨by rfl, ?_⟩) (by assumption) ?_
    rotate_left
    · intro w hSw
      try dsimp only at hSw
      go_simp
      try with_reducible rfl
    (try simp only [Act.put, List.setIfInBounds_toArray, List.set_cons_zero, List.set_cons_succ, List.getElem_toArray, List.getElem_cons_zero, List.getElem_cons_succ])
    refine wpAnyH_done (by kernel_rfl) ?_ _
    go_wp2
    go_ret
    exact ⟨by rw [show t = false from Bool.eq_false_iff.2 fun e => c3 (Ht.out.1 e).2.2.1]; rfl, hBB.drew.trans (hc0.mono hBB.size)⟩
  have hq3 : decide (x.d0 = e0 ∧ x.d1 = e1 ∧ x.d2 = e2 ∧ x.d3 = e3 ∧ x.i = e4) = true := decide_eq_true (HE.out.2 c3)
  simp only [hq3] at HQ
  have HT := Lib.hid fun W (h : U16s W (.slice (some ⟨w1.heap.size, 0, none⟩) 5 5) x.bl) => twice_any x.bl _ W h (bl_lt hf) (by simp [Im.bl])
  have hto : t = !(decide (¬ once x.bl)) := by
    by_cases ho : once x.bl
    · simp [ho, Ht.out.2 ⟨c1, c2, c3, ho⟩]
    · simp [ho, Bool.eq_false_iff.2 fun e => ho (Ht.out.1 e).2.2.2]
  have Hto := Lib.hid hto
  clear hto
  generalize decide (¬ once x.bl) = o at *
  refine wp_region_held_drew (S := (fun W => W.cell? ⟨w.heap.size, 1, none⟩ = some (w16 x.n) ∧ W.cell? ⟨w.heap.size, 2, none⟩ = some (.int .u32 x.z) ∧ W.cell? ⟨w1.heap.size, 0, none⟩ = some (w16 x.d0) ∧ W.cell? ⟨w1.heap.size, 1, none⟩ = some (w16 x.d1) ∧ W.cell? ⟨w1.heap.size, 2, none⟩ = some (w16 x.d2) ∧ W.cell? ⟨w1.heap.size, 3, none⟩ = some (w16 x.d3) ∧ W.cell? ⟨w1.heap.size, 4, none⟩ = some (w16 x.i))) (by kernel_rfl) (⟨k1, k2, l0, l1, l2, l3, l4⟩) (fun hHeld => ?_)
  refine wpAnyH_take (i := 0) (oi := _) (v := ?_) rfl (by kernel_rfl) (by kernel_rfl) (by kernel_rfl) (fun _ _ _ h => h) (Or.inl ⟨by rfl, ?_⟩) (by assumption) ?_
  rotate_left
  · intro w hSw
    try dsimp only at hSw
    go_simp
    try with_reducible rfl
  (try simp only [Act.put, List.setIfInBounds_toArray, List.set_cons_zero, List.set_cons_succ, List.getElem_toArray, List.getElem_cons_zero, List.getElem_cons_succ])
  refine wpAnyH_take (i := 1) (oi := _) (v := ?_) rfl (by kernel_rfl) (by kernel_rfl) (by kernel_rfl) (fun _ _ _ h => h) (Or.inl ⟨by rfl, ?_⟩) (by assumption) ?_
  rotate_left
  · intro w hSw
    try dsimp only at hSw
    go_simp
    try with_reducible rfl
  (try simp only [Act.put, List.setIfInBounds_toArray, List.set_cons_zero, List.set_cons_succ, List.getElem_toArray, List.getElem_cons_zero, List.getElem_cons_succ])
  refine wpAnyH_take (i := 2) (oi := _) (v := ?_) rfl (by kernel_rfl) (by kernel_rfl) (by kernel_rfl) (fun _ _ _ h => h) (Or.inl ⟨by rfl, ?_⟩) (by assumption) ?_
  rotate_left
  · intro w hSw
    try dsimp only at hSw
    go_simp
    try with_reducible rfl
  (try simp only [Act.put, List.setIfInBounds_toArray, List.set_cons_zero, List.set_cons_succ, List.getElem_toArray, List.getElem_cons_zero, List.getElem_cons_succ])
  refine wpAnyH_take (i := 3) (oi := _) (v := ?_) rfl (by kernel_rfl) (by kernel_rfl) (by kernel_rfl) (fun _ _ _ h => h) (Or.inl ⟨by rfl, ?_⟩) (by assumption) ?_
  rotate_left
  · intro w hSw
    try dsimp only at hSw
    go_simp
    try with_reducible rfl
  (try simp only [Act.put, List.setIfInBounds_toArray, List.set_cons_zero, List.set_cons_succ, List.getElem_toArray, List.getElem_cons_zero, List.getElem_cons_succ])
  refine wpAnyH_take (i := 4) (oi := _) (v := ?_) rfl (by kernel_rfl) (by kernel_rfl) (by kernel_rfl) (fun _ _ _ h => h) (Or.inl ⟨by rfl, ?_⟩) (by assumption) ?_
  rotate_left
  · intro w hSw
    try dsimp only at hSw
    go_simp
    try with_reducible rfl
  (try simp only [Act.put, List.setIfInBounds_toArray, List.set_cons_zero, List.set_cons_succ, List.getElem_toArray, List.getElem_cons_zero, List.getElem_cons_succ])
  refine wpAnyH_take (i := 5) (oi := _) (v := ?_) rfl (by kernel_rfl) (by kernel_rfl) (by kernel_rfl) (fun _ _ _ h => h) (Or.inl ⟨by rfl, ?_⟩) (by assumption) ?_
  rotate_left
  · intro w hSw
    try dsimp only at hSw
    go_simp
    try with_reducible rfl
  (try simp only [Act.put, List.setIfInBounds_toArray, List.set_cons_zero, List.set_cons_succ, List.getElem_toArray, List.getElem_cons_zero, List.getElem_cons_succ])
  refine wpAnyH_take (i := 6) (oi := _) (v := ?_) rfl (by kernel_rfl) (by kernel_rfl) (by kernel_rfl) (fun _ _ _ h => h) (Or.inl ⟨by rfl, ?_⟩) (by assumption) ?_
  rotate_left
  · intro w hSw
    try dsimp only at hSw
    go_simp
    try with_reducible rfl
  (try simp only [Act.put, List.setIfInBounds_toArray, List.set_cons_zero, List.set_cons_succ, List.getElem_toArray, List.getElem_cons_zero, List.getElem_cons_succ])
  refine wpAnyH_take (i := 7) (oi := _) (v := ?_) rfl (by kernel_rfl) (by kernel_rfl) (by kernel_rfl) (fun _ _ _ h => h) (Or.inl ⟨by rfl, ?_⟩) (by assumption) ?_
  rotate_left
  · intro w hSw
    try dsimp only at hSw
    go_simp
    try with_reducible rfl
  (try simp only [Act.put, List.setIfInBounds_toArray, List.set_cons_zero, List.set_cons_succ, List.getElem_toArray, List.getElem_cons_zero, List.getElem_cons_succ])
  refine wpAnyH_take (i := 8) (oi := _) (v := ?_) rfl (by kernel_rfl) (by kernel_rfl) (by kernel_rfl) (fun _ _ _ h => h) (Or.inl ⟨by rfl, ?_⟩) (by assumption) ?_
  rotate_left
  · intro w hSw
    try dsimp only at hSw
    go_simp
    try with_reducible rfl
  (try simp only [Act.put, List.setIfInBounds_toArray, List.set_cons_zero, List.set_cons_succ, List.getElem_toArray, List.getElem_cons_zero, List.getElem_cons_succ])
  refine wpAnyH_take (i := 9) (oi := _) (v := ?_) rfl (by kernel_rfl) (by kernel_rfl) (by kernel_rfl) (fun _ _ _ h => h) (Or.inl ⟨by rfl, ?_⟩) (by assumption) ?_
  rotate_left
  · intro w hSw
    try dsimp only at hSw
    go_simp
    try with_reducible rfl
  (try simp only [Act.put, List.setIfInBounds_toArray, List.set_cons_zero, List.set_cons_succ, List.getElem_toArray, List.getElem_cons_zero, List.getElem_cons_succ])
  refine wpAnyH_take (i := 10) (oi := _) (v := ?_) rfl (by kernel_rfl) (by kernel_rfl) (by kernel_rfl) (fun _ _ _ h => h) (Or.inl ⟨by rfl, ?_⟩) (by assumption) ?_
  rotate_left
  · intro w hSw
    try dsimp only at hSw
    go_simp
    try with_reducible rfl
  (try simp only [Act.put, List.setIfInBounds_toArray, List.set_cons_zero, List.set_cons_succ, List.getElem_toArray, List.getElem_cons_zero, List.getElem_cons_succ])
  refine wpAnyH_take (i := 11) (oi := _) (v := ?_) rfl (by kernel_rfl) (by kernel_rfl) (by kernel_rfl) (fun _ _ _ h => h) (Or.inl ⟨by rfl, ?_⟩) (by assumption) ?_
  rotate_left
  · intro w hSw
    try dsimp only at hSw
    go_simp
    try with_reducible rfl
  (try simp only [Act.put, List.setIfInBounds_toArray, List.set_cons_zero, List.set_cons_succ, List.getElem_toArray, List.getElem_cons_zero, List.getElem_cons_succ])
  refine wpAnyH_take (i := 12) (oi := _) (v := ?_) rfl (by kernel_rfl) (by kernel_rfl) (by kernel_rfl) (fun _ _ _ h => h) (Or.inl ⟨by rfl, ?_⟩) (by assumption) ?_
  rotate_left
  · intro w hSw
    try dsimp only at hSw
    go_simp
    try with_reducible rfl
  (try simp only [Act.put, List.setIfInBounds_toArray, List.set_cons_zero, List.set_cons_succ, List.getElem_toArray, List.getElem_cons_zero, List.getElem_cons_succ])
  refine wpAnyH_ready (rs := [13]) (by kernel_rfl) (by simp) ?_
  refine AllReadyH.cons (o := _) rfl (fun K hK => ?_) AllReadyH.nil
  go_simp
  refine (HW.out _).mono ?_
  rintro e w2 ⟨rfl, hc0⟩
  refine hK.out _ _ (⟨(hc0.cell (p := ⟨w.heap.size, 1, none⟩) hltA).trans k1, (hc0.cell (p := ⟨w.heap.size, 2, none⟩) hltA).trans k2, (hc0.cell (p := ⟨w1.heap.size, 0, none⟩) hltB).trans l0, (hc0.cell (p := ⟨w1.heap.size, 1, none⟩) hltB).trans l1, (hc0.cell (p := ⟨w1.heap.size, 2, none⟩) hltB).trans l2, (hc0.cell (p := ⟨w1.heap.size, 3, none⟩) hltB).trans l3, (hc0.cell (p := ⟨w1.heap.size, 4, none⟩) hltB).trans l4⟩) (fun hHeld => ?_)
  clear hK K
  (try simp only [Act.put, List.setIfInBounds_toArray, List.set_cons_zero, List.set_cons_succ, List.getElem_toArray, List.getElem_cons_zero, List.getElem_cons_succ])
  refine wpAnyH_take (i := 14) (oi := _) (v := ?_) rfl (by kernel_rfl) (by kernel_rfl) (by kernel_rfl) (fun _ _ _ h => h) (Or.inl ⟨by rfl, ?_⟩) (by assumption) ?_
  rotate_left
  · intro w hSw
    try dsimp only at hSw
    go_simp
    try with_reducible rfl
  (try simp only [Act.put, List.setIfInBounds_toArray, List.set_cons_zero, List.set_cons_succ, List.getElem_toArray, List.getElem_cons_zero, List.getElem_cons_succ])
  refine wpAnyH_take (i := 15) (oi := _) (v := ?_) rfl (by kernel_rfl) (by kernel_rfl) (by kernel_rfl) (fun _ _ _ h => h) (Or.inl ⟨by rfl, ?_⟩) (by assumption) ?_
  rotate_left
  · intro w hSw
    try dsimp only at hSw
    go_simp
    try with_reducible rfl
  (try simp only [Act.put, List.setIfInBounds_toArray, List.set_cons_zero, List.set_cons_succ, List.getElem_toArray, List.getElem_cons_zero, List.getElem_cons_succ])
  refine wpAnyH_take (i := 16) (oi := _) (v := ?_) rfl (by kernel_rfl) (by kernel_rfl) (by kernel_rfl) (fun _ _ _ h => h) (Or.inl ⟨by rfl, ?_⟩) (by assumption) ?_
  rotate_left
  · intro w hSw
    try dsimp only at hSw
    go_simp
    try with_reducible rfl
  (try simp only [Act.put, List.setIfInBounds_toArray, List.set_cons_zero, List.set_cons_succ, List.getElem_toArray, List.getElem_cons_zero, List.getElem_cons_succ])
  refine wpAnyH_take (i := 17) (oi := _) (v := ?_) rfl (by kernel_rfl) (by kernel_rfl) (by kernel_rfl) (fun _ _ _ h => h) (Or.inl ⟨by rfl, ?_⟩) (by assumption) ?_
  rotate_left
  · intro w hSw
    try dsimp only at hSw
    go_simp
    try with_reducible rfl
  (try simp only [Act.put, List.setIfInBounds_toArray, List.set_cons_zero, List.set_cons_succ, List.getElem_toArray, List.getElem_cons_zero, List.getElem_cons_succ])
  refine wpAnyH_ready (rs := [18]) (by kernel_rfl) (by simp) ?_
  refine AllReadyH.cons (o := _) rfl (fun K hK => ?_) AllReadyH.nil
  go_simp
  refine (HT.out _ (u16s_row ((hc0.block _ hltB).trans hl.out) rfl (bl_at x _ _ _ _ _ rfl rfl rfl rfl rfl))).mono ?_
  rintro e w3 ⟨rfl, hc2⟩
  have hc1 := hc0.trans (hc2.mono hc0.size)
  refine hK.out _ _ (⟨(hc1.cell (p := ⟨w.heap.size, 1, none⟩) hltA).trans k1, (hc1.cell (p := ⟨w.heap.size, 2, none⟩) hltA).trans k2, (hc1.cell (p := ⟨w1.heap.size, 0, none⟩) hltB).trans l0, (hc1.cell (p := ⟨w1.heap.size, 1, none⟩) hltB).trans l1, (hc1.cell (p := ⟨w1.heap.size, 2, none⟩) hltB).trans l2, (hc1.cell (p := ⟨w1.heap.size, 3, none⟩) hltB).trans l3, (hc1.cell (p := ⟨w1.heap.size, 4, none⟩) hltB).trans l4⟩) (fun hHeld => ?_)
  clear hK K
  (try simp only [Act.put, List.setIfInBounds_toArray, List.set_cons_zero, List.set_cons_succ, List.getElem_toArray, List.getElem_cons_zero, List.getElem_cons_succ])
  refine wpAnyH_take (i := 19) (oi := _) (v := ?_) rfl (by kernel_rfl) (by kernel_rfl) (by kernel_rfl) (fun _ _ _ h => h) (Or.inl ⟨by rfl, ?_⟩) (by assumption) ?_
  rotate_left
  · intro w hSw
    try dsimp only at hSw
    go_simp
    try with_reducible rfl
  (try simp only [Act.put, List.setIfInBounds_toArray, List.set_cons_zero, List.set_cons_succ, List.getElem_toArray, List.getElem_cons_zero, List.getElem_cons_succ])
  refine wpAnyH_take (i := 20) (oi := _) (v := ?_) rfl (by kernel_rfl) (by kernel_rfl) (by kernel_rfl) (fun _ _ _ h => h) (Or.inl ⟨by rfl, ?_⟩) (by assumption) ?_
  rotate_left
  · intro w hSw
    try dsimp only at hSw
    go_simp
    try with_reducible rfl
  (try simp only [Act.put, List.setIfInBounds_toArray, List.set_cons_zero, List.set_cons_succ, List.getElem_toArray, List.getElem_cons_zero, List.getElem_cons_succ])
  refine wpAnyH_take (i := 21) (oi := _) (v := ?_) rfl (by kernel_rfl) (by kernel_rfl) (by kernel_rfl) (fun _ _ _ h => h) (Or.inl ⟨by rfl, ?_⟩) (by assumption) ?_
  rotate_left
  · intro w hSw
    try dsimp only at hSw
    go_simp
    try with_reducible rfl
  (try simp only [Act.put, List.setIfInBounds_toArray, List.set_cons_zero, List.set_cons_succ, List.getElem_toArray, List.getElem_cons_zero, List.getElem_cons_succ])
  refine wpAnyH_done (by kernel_rfl) ?_ _
  go_wp2
  go_ret
  exact ⟨by rw [Hto.out]; rfl, hBB.drew.trans (hc1.mono hBB.size)⟩
theorem valid_any (x : Im) (hf : x.fits) (w : World) :
    Calls Tryz.prog 151 #[x.v] w fun e w' => e = .returned (.bool (decide x.may)) ∧ Below w.heap.size w w' := by
  by_cases h0 : x.k = 0
  · exact valid_zero x h0 w
  · by_cases h1 : x.k = 1
    · exact valid_file x hf h1 w _ (by rw [decide_eq_true_eq]; exact may_one (.inl h1))
    · by_cases h2 : x.k = 2
      · by_cases h3 : x.z % 64 = 0
        · exact valid_dirs x hf ⟨h2, h3⟩ w _ (by rw [decide_eq_true_eq]; exact may_one (.inr ⟨h2, h3⟩))
        · exact valid_dir x h2 h3 hf.2.2.1 w
      · exact valid_more x (by omega) w
end Go.Proofs.YtnfiapjdkjbdhaaGreat
