/- Layer 5, the document's own answers: Inode, Block, Where. -/
import Derived.Test.YtoighnnjadmoiaaGeoR1
namespace Go.Proofs.Ytoighnnjadmoiaa
open Go.RowKit
set_option linter.unusedVariables false
set_option linter.unusedSimpArgs false
set_option maxRecDepth 10000
set_option maxHeartbeats 1000000 in
theorem refInode_ok (G : Gm) (k : Nat) (x : Int) (hx : x = ((k + 1 : Nat) : Int)) (w : World) (h : G.ok) (hk : k + 1 ≤ G.i) :
    Calls Try.prog 20 #[gv G, .int .u32 x] w fun e w' => e = .returned (.tuple #[.int .i64 ((G.off 4 + k / 2 : Nat) : Int), .int .i64 ((k % 2 * 32 : Nat) : Int), .int .i64 0]) ∧ Below w.heap.size w w' := by
  have h4 : G.i ≤ 256 := h.1.2
  have HP := Lib.hid fun W => refPart_ok G 4 4 rfl W h (by omega)
  have h1 := G.off_le h 4 (by omega)
  have h2 := G.cnt_le h 4
  have hx1 : 1 ≤ x := by omega
  have hx2 : x ≤ 256 := by omega
  have hx3 : x ≤ (G.i : Int) := by omega
  have HX := Lib.hid hx
  clear hx hk
  go_enter Try.func20, Try.ntmps20
  go_wp2_with fail
  with_reducible refine (HP.out _).mono ?_
  rintro e w1 ⟨rfl, hb⟩
  have B := Lib.hid hb
  have hz : w.heap.size < w1.heap.size := by have := hb.size; simp at this; omega
  clear hb
  go_wp2_with fail
  go_ret3
  have hX := HX.out
  exact ⟨ret3_ii (by omega) (by omega), (((Below.refl _ _).alloc (Nat.le_refl _) _).trans (B.out.mono (by simp))).alloc (by omega) _⟩
set_option maxHeartbeats 1000000 in
theorem refInode_bad (G : Gm) (x : Int) (w : World) (hG : G.ok) (h : x < 1 ∨ (G.i : Int) < x) (h0 : 0 ≤ x) (h9 : x < 4294967296) :
    Calls Try.prog 20 #[gv G, .int .u32 x] w fun e w' => e = .returned (.tuple #[.int .i64 0, .int .i64 0, .int .i64 2]) ∧ Below w.heap.size w w' := by
  have h4 : G.i ≤ 256 := hG.1.2
  clear hG
  by_cases h1 : x < 1
  · clear h
    go_enter Try.func20, Try.ntmps20
    go_wp2
    go_ret3
    exact ⟨rfl, (Below.refl _ _).alloc (Nat.le_refl _) _⟩
  · have h2 : (G.i : Int) < x := by omega
    clear h
    go_enter Try.func20, Try.ntmps20
    go_wp2
    go_ret3
    exact ⟨rfl, (Below.refl _ _).alloc (Nat.le_refl _) _⟩
set_option maxHeartbeats 1000000 in
theorem refBlock_ok (G : Gm) (k : Nat) (x : Int) (hx : x = ((k + 1 : Nat) : Int)) (w : World) (h : G.ok) (hk : k + 1 ≤ G.b) :
    Calls Try.prog 21 #[gv G, .int .u16 x] w fun e w' => e = .returned (.tuple #[.int .i64 ((G.off 5 + k : Nat) : Int), .int .i64 0]) ∧ Below w.heap.size w w' := by
  have h4 : G.b ≤ 1024 := h.2.1.2
  have HP := Lib.hid fun W => refPart_ok G 5 5 rfl W h (by omega)
  have h1 := G.off_le h 5 (by omega)
  have h2 := G.cnt_le h 5
  have hx1 : 1 ≤ x := by omega
  have hx2 : x ≤ 1024 := by omega
  have hx3 : x ≤ (G.b : Int) := by omega
  have HX := Lib.hid hx
  clear hx hk
  go_enter Try.func21, Try.ntmps21
  go_wp2_with fail
  with_reducible refine (HP.out _).mono ?_
  rintro e w1 ⟨rfl, hb⟩
  have B := Lib.hid hb
  have hz : w.heap.size < w1.heap.size := by have := hb.size; simp at this; omega
  clear hb
  go_wp2_with fail
  go_ret2
  have hX := HX.out
  exact ⟨ret2_i (by omega), (((Below.refl _ _).alloc (Nat.le_refl _) _).trans (B.out.mono (by simp))).alloc (by omega) _⟩
set_option maxHeartbeats 1000000 in
theorem refBlock_bad (G : Gm) (x : Int) (w : World) (hG : G.ok) (h : x < 1 ∨ (G.b : Int) < x) (h0 : 0 ≤ x) (h9 : x < 65536) :
    Calls Try.prog 21 #[gv G, .int .u16 x] w fun e w' => e = .returned (.tuple #[.int .i64 0, .int .i64 2]) ∧ Below w.heap.size w w' := by
  have h4 : G.b ≤ 1024 := hG.2.1.2
  clear hG
  by_cases h1 : x < 1
  · clear h
    go_enter Try.func21, Try.ntmps21
    go_wp2
    go_ret2
    exact ⟨rfl, (Below.refl _ _).alloc (Nat.le_refl _) _⟩
  · have h2 : (G.b : Int) < x := by omega
    clear h
    go_enter Try.func21, Try.ntmps21
    go_wp2
    go_ret2
    exact ⟨rfl, (Below.refl _ _).alloc (Nat.le_refl _) _⟩
/-- The box with a geometry, at the front of a call's memory. -/
theorem box_cells {w W : World} {a b c : Value} (h : Below (w.alloc (.cells #[a, b, c] 23)).heap.size (w.alloc (.cells #[a, b, c] 23)) W) :
    W.cell? ⟨w.heap.size, 0, none⟩ = some a ∧ W.cell? ⟨w.heap.size, 1, none⟩ = some b ∧ W.cell? ⟨w.heap.size, 2, none⟩ = some c := by
  have h1 := (h.block w.heap.size (by simp)).trans (heap_alloc_new w _)
  exact ⟨cell_of_row W _ 0 _ _ (0, 0) h1, cell_of_row W _ 1 _ _ (0, 0) h1, cell_of_row W _ 2 _ _ (0, 0) h1⟩
set_option maxHeartbeats 1000000 in
theorem refWhere_ok (G : Gm) (q : Nat) (n : Nat) (x : Int) (hx : x = (n : Int)) (w : World) (h : G.ok) (hq : q < 6) (hn1 : G.off q ≤ n) (hn2 : n < G.off (q + 1)) :
    Calls Try.prog 22 #[gv G, .int .i64 x] w fun e w' => e = .returned (.tuple #[.int .i64 (q : Int), .int .i64 ((n - G.off q : Nat) : Int), .int .i64 0]) ∧ Below w.heap.size w w' := by
  subst hx
  have HP := Lib.hid fun p W hp => refPart_ok G p (p : Int) rfl W h hp
  have HO := Lib.hid (fun p (hp : p ≤ 6) => G.off_le h p hp)
  have HC := Lib.hid (fun p => G.cnt_le h p)
  have HOM := Lib.hid (fun p (hp : p < q) => G.off_mono (show p + 1 ≤ q by omega))
  have hq1 := G.off_le h (q + 1) (by omega)
  have HN := Lib.hid (And.intro hn1 hn2)
  clear hn1 hn2
  go_enter Try.func22, Try.ntmps22
  go_wp2_with fail
  go_loopw [7, 8, 9] (fun i _ _ wr => ∃ k : Nat, k ≤ q ∧ i = .int .i64 k ∧ Below (w.alloc (.cells #[.int .i64 (G.i : Int), .int .i64 (G.b : Int), .int .i64 (G.j : Int)] 23)).heap.size (w.alloc (.cells #[.int .i64 (G.i : Int), .int .i64 (G.b : Int), .int .i64 (G.j : Int)] 23)) wr) (fun i _ _ _ => q - (intOf i).toNat)
  case atStart => exact ⟨0, Nat.zero_le _, rfl, Below.refl _ _⟩
  case round =>
    obtain ⟨k, hk, rfl, hb⟩ := hrel
    obtain ⟨g0, g1, g2⟩ := box_cells hb
    have HPk := Lib.hid fun W => HP.out k W (by omega)
    have ho := HO.out k (by omega)
    have hcc := HC.out k
    have hkq6 : (k : Int) < 6 := by omega
    have hN := HN.out
    by_cases hlt : k < q
    · have hom := HOM.out k hlt
      rw [Gm.off_succ] at hom
      have hge : (G.off k : Int) + (G.cnt k : Int) ≤ (n : Int) := by omega
      have hge1 : (G.off k : Int) ≤ (n : Int) := by omega
      have hd : decide (n < G.off k + G.cnt k) = false := by simp <;> omega
      have hd2 : decide ((n : Int) < (G.off k : Int) + (G.cnt k : Int)) = false := by simp <;> omega
      clear hom hN
      go_wp2_with fail
      with_reducible refine (HPk.out _).mono ?_
      rintro e w3 ⟨rfl, hb3⟩
      have B3 := Lib.hid hb3
      clear hb3 g0 g1 g2
      go_wp2_with fail
      go_roundw
      case rel => exact ⟨k + 1, by omega, by go_num, (hb.trans (B3.out.mono hb.size)).alloc (by have := B3.out.size; have := hb.size; omega) _⟩
      case measure => simp [intOf]; omega
    · have hkq : k = q := by omega
      subst hkq
      rw [Gm.off_succ] at hN
      have hge1 : (G.off k : Int) ≤ (n : Int) := by omega
      have hge2 : (n : Int) < (G.off k : Int) + (G.cnt k : Int) := by omega
      clear hN
      go_wp2_with fail
      with_reducible refine (HPk.out _).mono ?_
      rintro e w3 ⟨rfl, hb3⟩
      have B3 := Lib.hid hb3
      clear hb3 g0 g1 g2
      go_wp2_with fail
      go_quiet (fail)
      go_wp2_with fail
      go_ret3
      refine ⟨ret3_ii rfl (by first | omega | (rw [IntWalk.wrap64_in _ (by omega)]; omega)), below_drewN ?_ _⟩
      have e1 := ((Below.refl _ _).alloc (Nat.le_refl _) _).trans (hb.mono (by simp))
      exact (e1.trans (B3.out.mono (by have := hb.size; simp at this; omega))).alloc (by have := B3.out.size; have := hb.size; simp at this; omega) _
set_option maxHeartbeats 1000000 in
theorem refWhere_out (G : Gm) (x : Int) (w : World) (h : G.ok) (hx : x < 0 ∨ (G.all : Int) ≤ x) :
    Calls Try.prog 22 #[gv G, .int .i64 x] w fun e w' => e = .returned (.tuple #[.int .i64 0, .int .i64 0, .int .i64 2]) ∧ Below w.heap.size w w' := by
  have HP := Lib.hid fun p W hp => refPart_ok G p (p : Int) rfl W h hp
  have HO := Lib.hid (fun p (hp : p ≤ 6) => G.off_le h p hp)
  have HC := Lib.hid (fun p => G.cnt_le h p)
  have HOM := Lib.hid (fun p (hp : p < 6) => G.off_mono (show p + 1 ≤ 6 by omega))
  have HN := Lib.hid hx
  clear hx
  all_goals
    go_enter Try.func22, Try.ntmps22
    go_wp2_with fail
    go_loopw [7, 8, 9] (fun i _ _ wr => ∃ k : Nat, k ≤ 6 ∧ i = .int .i64 k ∧ Below (w.alloc (.cells #[.int .i64 (G.i : Int), .int .i64 (G.b : Int), .int .i64 (G.j : Int)] 23)).heap.size (w.alloc (.cells #[.int .i64 (G.i : Int), .int .i64 (G.b : Int), .int .i64 (G.j : Int)] 23)) wr) (fun i _ _ _ => 6 - (intOf i).toNat)
    case atStart => exact ⟨0, Nat.zero_le _, rfl, Below.refl _ _⟩
    case round =>
      obtain ⟨k, hk, rfl, hb⟩ := hrel
      obtain ⟨g0, g1, g2⟩ := box_cells hb
      have hN := HN.out
      by_cases hlt : k < 6
      · have HPk := Lib.hid fun W => HP.out k W hlt
        have ho := HO.out k (by omega)
        have hcc := HC.out k
        have hom := HOM.out k hlt
        rw [Gm.off_succ] at hom
        have hd : x < (G.off k : Int) ∨ ((G.off k : Int) ≤ x ∧ decide (x < (G.off k : Int) + (G.cnt k : Int)) = false) := by
          unfold Gm.all at hN
          rcases hN with hN | hN
          · exact .inl (by omega)
          · exact .inr ⟨by omega, by simp <;> omega⟩
        clear hom hN
        rcases hd with hd | ⟨hd, hd2⟩
        all_goals
          go_wp2_with fail
          with_reducible refine (HPk.out _).mono ?_
          rintro e w3 ⟨rfl, hb3⟩
          have B3 := Lib.hid hb3
          clear hb3 g0 g1 g2
          go_wp2_with fail
          go_roundw
          case rel => exact ⟨k + 1, by omega, by go_num, (hb.trans (B3.out.mono hb.size)).alloc (by have := B3.out.size; have := hb.size; omega) _⟩
          case measure => simp [intOf]; omega
      · have hkq : k = 6 := by omega
        subst hkq
        clear hN
        go_wp2_with fail
        go_ret3
        exact ⟨rfl, ((Below.refl _ _).alloc (Nat.le_refl _) _).trans (hb.mono (by simp))⟩
end Go.Proofs.Ytoighnnjadmoiaa
