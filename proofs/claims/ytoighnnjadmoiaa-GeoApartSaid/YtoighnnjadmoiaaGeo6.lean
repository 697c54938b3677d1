/- Layer 5 (geo): Read. -/
import Derived.Test.YtoighnnjadmoiaaGeo5
namespace Go.Proofs.Ytoighnnjadmoiaa
open Go.RowKit
set_option linter.unusedVariables false
set_option linter.unusedSimpArgs false
set_option maxRecDepth 10000
/-- The first bytes, if there are so many. -/
def cutA (n : Nat) (l : List UInt8) : List UInt8 := if n ≤ l.length then l.take n else []
theorem cutA_length (n : Nat) (l : List UInt8) : (cutA n l).length ≤ n := by
  unfold cutA; split <;> simp; omega
def CutPost (n : Nat) (l : List UInt8) (w : World) (e : Ending) (w' : World) : Prop := ∃ x : Int, e = .returned (.tuple #[str (cutA n l), str (l.drop n), .int .i64 x]) ∧ Below w.heap.size w w'
theorem cut_post (l : List UInt8) (n : Nat) (x : Int) (hx : x = (n : Int)) (w : World) (hs : l.length ≤ maxLen) :
    Calls Try.prog 29 #[str l, .int .i64 x] w (CutPost n l w) := by
  by_cases h : n ≤ l.length
  · refine (cut_ok l x n w hs hx h).mono ?_
    rintro e w' ⟨rfl, hb⟩
    exact ⟨0, by rw [cutA, if_pos h], hb⟩
  · refine (cut_far l x w hs (by omega)).mono ?_
    rintro e w' ⟨rfl, hb⟩
    exact ⟨6, by rw [cutA, if_neg h, List.drop_of_length_le (by omega)], hb⟩
/-- The k-th number that Read finds. -/
def gotA (s : List UInt8) (k : Nat) : Nat := leV (cutA 4 (s.drop (8 + 4 * k)))
theorem gotA_lt (s : List UInt8) (k : Nat) : gotA s k < 4294967296 :=
  Nat.lt_of_lt_of_le (leV_lt _) (Nat.le_trans (Nat.pow_le_pow_right (by omega) (cutA_length 4 _)) (by decide))
/-- The geometry that Read finds. -/
def gA (s : List UInt8) : Gm := ⟨gotA s 0, gotA s 1, gotA s 2⟩
theorem gA_got {s : List UInt8} (h : s.length = 64) : gA s = gotL s := by
  unfold gA gotL gotA cutA
  rw [if_pos (by simp; omega), if_pos (by simp; omega), if_pos (by simp; omega)]
theorem readA (s : List UInt8) : readL s = if (gA s).ok ∧ superL (gA s) = s then some (gA s) else none := by
  by_cases h : s.length = 64
  · rw [gA_got h]; rfl
  · rw [readL_short h, if_neg]
    rintro ⟨-, e⟩
    exact h (by rw [← e, superL_length])
/-- The array of numbers behind k rounds. -/
def cellsA (s : List UInt8) : Nat → Array Value
  | 0 => #[.int .i64 0, .int .i64 0, .int .i64 0]
  | 1 => #[.int .i64 (gotA s 0 : Int), .int .i64 0, .int .i64 0]
  | 2 => #[.int .i64 (gotA s 0 : Int), .int .i64 (gotA s 1 : Int), .int .i64 0]
  | _ => #[.int .i64 (gotA s 0 : Int), .int .i64 (gotA s 1 : Int), .int .i64 (gotA s 2 : Int)]
theorem cellsA_set (s : List UInt8) (k : Nat) (hk : k < 3) : (cellsA s k).setIfInBounds k (.int .i64 (gotA s k : Int)) = cellsA s (k + 1) := by
  match k, hk with
  | 0, _ | 1, _ | 2, _ => rfl
theorem cellsA_at (s : List UInt8) (k : Nat) (hk : k < 3) : ∃ v, (cellsA s k)[k]? = some v := by
  match k, hk with
  | 0, _ | 1, _ | 2, _ => exact ⟨_, rfl⟩
theorem set3g {W : World} {g : Nat} {a b c : Value} {t : TypeId} (h : W.heap[g]? = some (.cells #[a, b, c] t (0, 0))) (x y z : Value) :
    (((W.setCell ⟨g, 0, none⟩ x).setCell ⟨g, 1, none⟩ y).setCell ⟨g, 2, none⟩ z).heap[g]? = some (.cells #[x, y, z] t (0, 0)) := by
  have h1 := heap_setCell_same W g 0 _ t x h
  have h2 := heap_setCell_same _ g 1 _ t y h1
  have h3 := heap_setCell_same _ g 2 _ t z h2
  exact h3
/-- What Read answers. -/
def readV : Option Gm → Value
  | some G => .tuple #[gv G, .int .i64 0]
  | none => .tuple #[geoV 0 0 0, .int .i64 7]
set_option maxRecDepth 20000 in
set_option maxHeartbeats 1000000 in
theorem read_any (s : List UInt8) (w : World) (hs : s.length ≤ maxLen) :
    Calls Try.prog 13 #[str s] w fun e w' => e = .returned (readV (readL s)) ∧ Below w.heap.size w w' := by
  have HC0 := Lib.hid fun W => cut_post s 8 8 rfl W hs
  have HC := Lib.hid fun k W => cut_post (s.drop (8 + 4 * k)) 4 4 rfl W (by rw [List.length_drop]; omega)
  have hgk : ∀ k W, Calls Try.prog 30 #[str (cutA 4 (s.drop (8 + 4 * k)))] W fun e w' => e = .returned (.tuple #[.int .u64 (gotA s k : Int), .int .i64 0]) ∧ Below W.heap.size W w' := fun k W => get_ok (cutA 4 (s.drop (8 + 4 * k))) W (Nat.le_trans (cutA_length 4 _) (by omega))
  have HG := Lib.hid hgk
  clear hgk
  have HGL := Lib.hid fun k => gotA_lt s k
  go_enter Try.func13, Try.ntmps13
  go_wp2_with fail
  with_reducible refine (HC0.out _).mono ?_
  rintro e w1 ⟨x0, rfl, hb⟩
  have B := Lib.hid hb
  have hz : w.heap.size < w1.heap.size := by have := hb.size; simp at this; omega
  clear hb
  go_wp2_with fail
  go_loopw [5, 8, 9, 10, 11, 21] (fun r _ _ _ _ i wr => ∃ k : Nat, k ≤ 3 ∧ i = .int .i64 k ∧ r = str (s.drop (8 + 4 * k)) ∧ wr.heap[w1.heap.size]? = some (.cells (cellsA s k) 55 (0, 0)) ∧ Below w1.heap.size w1 wr) (fun _ _ _ _ _ i _ => 3 - (intOf i).toNat)
  case atStart => exact ⟨0, by omega, rfl, rfl, heap_alloc_new _ _, (Below.refl _ _).alloc (Nat.le_refl _) _⟩
  case round =>
    obtain ⟨k, hk, rfl, rfl, hg, hb⟩ := hrel
    have Hg := Lib.hid hg
    have hgl := HGL.out k
    by_cases hlt : k < 3
    · have hlw := (Array.getElem?_eq_some_iff.1 hg).1
      clear hg
      go_wp2_with fail
      with_reducible refine (HC.out k _).mono ?_
      rintro e w3 ⟨x3, rfl, hb3⟩
      have B3 := Lib.hid hb3
      clear hb3
      go_wp2_with fail
      with_reducible refine (HG.out k _).mono ?_
      rintro e w4 ⟨rfl, hb4⟩
      have hz3 := B3.out.size
      have B4 := Lib.hid (B3.out.trans (hb4.mono hz3))
      clear hb4
      have hrow := (B4.out.block w1.heap.size hlw).trans Hg.out
      obtain ⟨v, hv⟩ := cellsA_at s k hlt
      have hcell := cell_of_row w4 w1.heap.size k _ 55 (0, 0) hrow
      rw [hv] at hcell
      have hfr := frozen_of_row w4 w1.heap.size k _ 55 hrow
      have Hrow := Lib.hid hrow
      clear hrow hv
      go_wp2_with fail
      go_roundw
      case rel =>
        refine ⟨k + 1, by omega, by go_num, ?_, ?_, (hb.trans (B4.out.mono hb.size)).setCell (Nat.le_refl _) _⟩
        · rw [show 8 + 4 * (k + 1) = 8 + 4 * k + 4 by omega]
        · rw [heap_setCell_same _ _ _ _ _ _ Hrow.out, cellsA_set s k hlt]
      case measure => simp [intOf]; omega
    · have hkq : k = 3 := by omega
      subst hkq
      have c0 := cell_of_row wr w1.heap.size 0 _ 55 (0, 0) hg
      have c1 := cell_of_row wr w1.heap.size 1 _ 55 (0, 0) hg
      have c2 := cell_of_row wr w1.heap.size 2 _ 55 (0, 0) hg
      simp only [cellsA, List.getElem?_toArray, List.getElem?_cons_zero, List.getElem?_cons_succ] at c0 c1 c2
      have hrow := ((B.out.trans (hb.mono B.out.size)).block w.heap.size (by simp)).trans (heap_alloc_new w _)
      have Hrow := Lib.hid hrow
      have hz2 := hb.size
      clear hg hrow hgl
      have HRA := Lib.hid (readA s)
      by_cases hok : (gA s).ok
      · have hsg : ∀ W, Calls Try.prog 12 #[geoV (gotA s 0 : Int) (gotA s 1 : Int) (gotA s 2 : Int)] W fun e w' => e = .returned (.tuple #[str (superL (gA s)), .int .i64 0]) ∧ Below W.heap.size W w' := fun W => super_ok (gA s) W hok
        by_cases heq : superL (gA s) = s
        · have HN := Lib.hid (show readL s = some (gA s) by rw [HRA.out, if_pos ⟨hok, heq⟩])
          rw [heq] at hsg
          have HS := Lib.hid hsg
          clear hsg heq hok
          go_wp2_with fail
          with_reducible refine (HS.out _).mono ?_
          rintro e w3 ⟨rfl, hb3⟩
          have B3 := Lib.hid hb3
          have hz3 := hb3.size
          have hrow3 := (hb3.block w.heap.size (by simp; omega)).trans ((((Below.refl wr.heap.size wr).alloc (Nat.le_refl _) _).block w.heap.size (by omega)).trans Hrow.out)
          have grow3 := (hb3.block wr.heap.size (by simp)).trans (heap_alloc_new wr _)
          have r2 := frozen_of_row w3 w.heap.size 0 _ 23 hrow3
          have r3 := frozen_of_row w3 w.heap.size 1 _ 23 hrow3
          have r4 := frozen_of_row w3 w.heap.size 2 _ 23 hrow3
          have c0 := cell_of_row w3 w.heap.size 0 _ 23 (0, 0) hrow3
          have c1 := cell_of_row w3 w.heap.size 1 _ 23 (0, 0) hrow3
          have c2 := cell_of_row w3 w.heap.size 2 _ 23 (0, 0) hrow3
          have d0 := cell_of_row w3 wr.heap.size 0 _ 23 (0, 0) grow3
          have d1 := cell_of_row w3 wr.heap.size 1 _ 23 (0, 0) grow3
          have d2 := cell_of_row w3 wr.heap.size 2 _ 23 (0, 0) grow3
          simp only [List.getElem?_toArray, List.getElem?_cons_zero, List.getElem?_cons_succ] at c0 c1 c2 d0 d1 d2
          have Hrow3 := Lib.hid hrow3
          clear hb3 hrow3 grow3
          go_wp2_with fail
          have e2 : Below w.heap.size w w3 := (((((Below.refl _ _).alloc (Nat.le_refl _) _).trans (B.out.mono (by simp))).trans (hb.mono (by omega))).alloc (by omega) _).trans (B3.out.mono (by simp; omega))
          refine bodyPost_ret (v := readV (some (gA s))) ?_ rfl ⟨by rw [HN.out], ((e2.setCell (Nat.le_refl _) _).setCell (Nat.le_refl _) _).setCell (Nat.le_refl _) _⟩
          exact results_row_tmp (p := 2) (q := 3) rfl _ _ w.heap.size _ rfl (load_geo _ _ _ _ _ (set3g Hrow3.out _ _ _))
        · have HN := Lib.hid (show readL s = none by rw [HRA.out, if_neg (fun h => heq h.2)])
          have hne : (superL (gA s) == s) = false := by simpa using heq
          generalize superL (gA s) = t at hsg hne
          have HS := Lib.hid hsg
          clear hsg heq hok
          go_wp2_with fail
          with_reducible refine (HS.out _).mono ?_
          rintro e w3 ⟨rfl, hb3⟩
          have B3 := Lib.hid hb3
          have hz3 := hb3.size
          have hrow3 := (hb3.block w.heap.size (by simp; omega)).trans ((((Below.refl wr.heap.size wr).alloc (Nat.le_refl _) _).block w.heap.size (by omega)).trans Hrow.out)
          have grow3 := (hb3.block wr.heap.size (by simp)).trans (heap_alloc_new wr _)
          have r2 := frozen_of_row w3 w.heap.size 0 _ 23 hrow3
          have r3 := frozen_of_row w3 w.heap.size 1 _ 23 hrow3
          have r4 := frozen_of_row w3 w.heap.size 2 _ 23 hrow3
          have c0 := cell_of_row w3 w.heap.size 0 _ 23 (0, 0) hrow3
          have c1 := cell_of_row w3 w.heap.size 1 _ 23 (0, 0) hrow3
          have c2 := cell_of_row w3 w.heap.size 2 _ 23 (0, 0) hrow3
          have d0 := cell_of_row w3 wr.heap.size 0 _ 23 (0, 0) grow3
          have d1 := cell_of_row w3 wr.heap.size 1 _ 23 (0, 0) grow3
          have d2 := cell_of_row w3 wr.heap.size 2 _ 23 (0, 0) grow3
          simp only [List.getElem?_toArray, List.getElem?_cons_zero, List.getElem?_cons_succ] at c0 c1 c2 d0 d1 d2
          have Hrow3 := Lib.hid hrow3
          clear hb3 hrow3 grow3
          go_wp2_with fail
          have e2 : Below w.heap.size w w3 := (((((Below.refl _ _).alloc (Nat.le_refl _) _).trans (B.out.mono (by simp))).trans (hb.mono (by omega))).alloc (by omega) _).trans (B3.out.mono (by simp; omega))
          refine bodyPost_ret (v := readV none) ?_ rfl ⟨by rw [HN.out], ((e2.setCell (Nat.le_refl _) _).setCell (Nat.le_refl _) _).setCell (Nat.le_refl _) _⟩
          exact results_row_tmp (p := 2) (q := 3) rfl _ _ w.heap.size _ rfl (load_geo _ _ _ _ _ (set3g Hrow3.out _ _ _))
      · have hm : ¬ mayI (gotA s 0 : Int) (gotA s 1 : Int) (gotA s 2 : Int) := fun hm => hok (by
          unfold mayI at hm; unfold Gm.ok gA; simp only; omega)
        have HS := Lib.hid fun W => super_bad _ _ _ W hm
        have HN := Lib.hid (show readL s = none by rw [HRA.out, if_neg (fun h => hok h.1)])
        clear hok hm
        go_wp2_with fail
        with_reducible refine (HS.out _).mono ?_
        rintro e w3 ⟨rfl, hb3⟩
        have B3 := Lib.hid hb3
        have hz3 := hb3.size
        have hrow3 := (hb3.block w.heap.size (by simp; omega)).trans ((((Below.refl wr.heap.size wr).alloc (Nat.le_refl _) _).block w.heap.size (by omega)).trans Hrow.out)
        have grow3 := (hb3.block wr.heap.size (by simp)).trans (heap_alloc_new wr _)
        have r2 := frozen_of_row w3 w.heap.size 0 _ 23 hrow3
        have r3 := frozen_of_row w3 w.heap.size 1 _ 23 hrow3
        have r4 := frozen_of_row w3 w.heap.size 2 _ 23 hrow3
        have c0 := cell_of_row w3 w.heap.size 0 _ 23 (0, 0) hrow3
        have c1 := cell_of_row w3 w.heap.size 1 _ 23 (0, 0) hrow3
        have c2 := cell_of_row w3 w.heap.size 2 _ 23 (0, 0) hrow3
        have d0 := cell_of_row w3 wr.heap.size 0 _ 23 (0, 0) grow3
        have d1 := cell_of_row w3 wr.heap.size 1 _ 23 (0, 0) grow3
        have d2 := cell_of_row w3 wr.heap.size 2 _ 23 (0, 0) grow3
        simp only [List.getElem?_toArray, List.getElem?_cons_zero, List.getElem?_cons_succ] at c0 c1 c2 d0 d1 d2
        have Hrow3 := Lib.hid hrow3
        clear hb3 hrow3 grow3
        go_wp2_with fail
        have e2 : Below w.heap.size w w3 := (((((Below.refl _ _).alloc (Nat.le_refl _) _).trans (B.out.mono (by simp))).trans (hb.mono (by omega))).alloc (by omega) _).trans (B3.out.mono (by simp; omega))
        refine bodyPost_ret (v := readV none) ?_ rfl ⟨by rw [HN.out], ((e2.setCell (Nat.le_refl _) _).setCell (Nat.le_refl _) _).setCell (Nat.le_refl _) _⟩
        exact results_row_tmp (p := 2) (q := 3) rfl _ _ w.heap.size _ rfl (load_geo _ _ _ _ _ (set3g Hrow3.out _ _ _))
end Go.Proofs.Ytoighnnjadmoiaa
