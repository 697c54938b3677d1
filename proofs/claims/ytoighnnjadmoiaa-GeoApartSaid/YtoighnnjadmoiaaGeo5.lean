/- Layer 5 (geo): Super and Read. -/
import Derived.Test.YtoighnnjadmoiaaGeo4
import Derived.Test.YtoighnnjadmoiaaOctet5
namespace Go.Proofs.Ytoighnnjadmoiaa
open Go.RowKit
set_option linter.unusedVariables false
set_option linter.unusedSimpArgs false
set_option maxRecDepth 10000
/-- A geometry's numbers in the superblock's order. -/
def Gm.nth (G : Gm) : Nat → Nat
  | 0 => G.i
  | 1 => G.b
  | _ => G.j
theorem Gm.nth_le {G : Gm} (h : G.ok) (k : Nat) : G.nth k ≤ 1024 := by
  unfold Gm.ok at h
  match k with
  | 0 | 1 | k + 2 => simp only [Gm.nth]; omega
/-- What a superblock begins with: the first k numbers. -/
def Gm.pre (G : Gm) : Nat → List UInt8
  | 0 => labelL
  | k + 1 => G.pre k ++ leB 4 (G.nth k)
theorem Gm.pre_length (G : Gm) (k : Nat) : (G.pre k).length = 8 + 4 * k := by
  induction k with
  | zero => rfl
  | succ k ih => rw [Gm.pre, List.length_append, ih, leB_length]; omega
theorem super_pre (G : Gm) : superL G = G.pre 3 ++ List.replicate 44 0 := rfl
theorem small_num (v : Nat) (h : v ≤ 1024) : ((v : Int) / 2 ^ (8 * 4) != 0) = false := by
  rw [bne_eq_false_iff_eq]
  omega
theorem num4 (v : Nat) (x : Int) (hx : x = (v : Int)) (w : World) (h : v ≤ 1024) :
    Calls Try.prog 27 #[.int .u64 x, .int .i64 4] w fun e w' => e = .returned (.tuple #[str (leB 4 v), .int .i64 0]) ∧ Below w.heap.size w w' := by
  subst hx
  exact num_ok v 4 w (by omega) (by omega) (small_num v h)
set_option maxHeartbeats 1000000 in
theorem super_bad (i b j : Int) (w : World) (h : ¬ mayI i b j) :
    Calls Try.prog 12 #[geoV i b j] w fun e w' => e = .returned (.tuple #[str [], .int .i64 2]) ∧ Below w.heap.size w w' := by
  have HM := Lib.hid fun W => may_bad _ _ _ W h
  clear h
  go_enter Try.func12, Try.ntmps12
  go_wp2_with fail
  with_reducible refine (HM.out _).mono ?_
  rintro e w1 ⟨rfl, hb⟩
  go_wp2_with fail
  go_ret2
  exact ⟨rfl, ((Below.refl _ _).alloc (Nat.le_refl _) _).trans (hb.mono (by simp))⟩
set_option maxHeartbeats 1000000 in
theorem super_ok (G : Gm) (w : World) (h : G.ok) :
    Calls Try.prog 12 #[gv G] w fun e w' => e = .returned (.tuple #[str (superL G), .int .i64 0]) ∧ Below w.heap.size w w' := by
  have HM := Lib.hid fun W => may_ok _ _ _ W (gm_mayI h)
  have HN := Lib.hid fun k W => num4 (G.nth k) (G.nth k : Int) rfl W (G.nth_le h k)
  have HK := Lib.hid fun k => G.nth_le h k
  have HPL := Lib.hid fun k => G.pre_length k
  go_enter Try.func12, Try.ntmps12
  go_wp2_with fail
  with_reducible refine (HM.out _).mono ?_
  rintro e w1 ⟨rfl, hb⟩
  have B := Lib.hid hb
  obtain ⟨hc, hf⟩ := bcell hb
  have hz : w.heap.size < w1.heap.size := by have := hb.size; simp at this; omega
  clear hb
  go_wp2_with fail
  go_loopw [4, 6, 7, 8, 19] (fun s _ _ _ i wr => ∃ k : Nat, k ≤ 3 ∧ i = .int .i64 k ∧ s = str (G.pre k) ∧ wr.heap[w1.heap.size]? = some (.cells #[.int .i64 (G.i : Int), .int .i64 (G.b : Int), .int .i64 (G.j : Int)] 55 (0, 0)) ∧ Below w1.heap.size w1 wr) (fun _ _ _ _ i _ => 3 - (intOf i).toNat)
  case atStart => exact ⟨0, by omega, rfl, rfl, heap_alloc_new _ _, (Below.refl _ _).alloc (Nat.le_refl _) _⟩
  case round =>
    obtain ⟨k, hk, rfl, rfl, hg, hb⟩ := hrel
    have Hg := Lib.hid hg
    by_cases hlt : k < 3
    · have hcell := cell_of_row wr w1.heap.size k _ 55 (0, 0) hg
      have hcv : (#[Value.int .i64 (G.i : Int), .int .i64 (G.b : Int), .int .i64 (G.j : Int)] : Array Value)[k]? = some (.int .i64 (G.nth k : Int)) := by
        match k, hlt with
        | 0, _ | 1, _ | 2, _ => rfl
      rw [hcv] at hcell
      have hkk := HK.out k
      have hl := HPL.out k
      have hl2 : (G.pre k).length ≤ 20 := by omega
      have hl4 : (leB 4 (G.nth k)).length ≤ 4 := by rw [leB_length]; omega
      clear hcv hg hl
      go_wp2_with fail
      with_reducible refine (HN.out k _).mono ?_
      rintro e w3 ⟨rfl, hb3⟩
      have B3 := Lib.hid hb3
      clear hb3
      go_wp2_with fail
      go_roundw
      case rel => exact ⟨k + 1, by omega, by go_num, rfl, (B3.out.block _ (by have := hb.size; have := (Array.getElem?_eq_some_iff.1 Hg.out).1; omega)).trans Hg.out, hb.trans (B3.out.mono hb.size)⟩
      case measure => simp [intOf]; omega
    · have hkq : k = 3 := by omega
      subst hkq
      have HP := Lib.hid (pad_ok (G.pre 3) 44 64 wr (by rw [G.pre_length 3]; rfl) (by rw [G.pre_length 3]; omega))
      clear hg
      go_wp2_with fail
      with_reducible refine HP.out.mono ?_
      rintro e w3 ⟨rfl, hb3⟩
      have B3 := Lib.hid hb3
      clear hb3
      go_wp2_with fail
      go_ret2
      exact ⟨rfl, (((Below.refl _ _).alloc (Nat.le_refl _) _).trans (B.out.mono (by simp))).trans (hb.mono (by omega)) |>.trans (B3.out.mono (by have := hb.size; omega))⟩
end Go.Proofs.Ytoighnnjadmoiaa
