/- Layer 5: the walk of GeoRises. -/
import Derived.Test.YtoighnnjadmoiaaGeoAlive
import Derived.Test.YtoighnnjadmoiaaBaseGeoEq
import Derived.Deep.RegionHeld3
namespace Go.Proofs.Ytoighnnjadmoiaa
open Go.RowKit
set_option linter.unusedVariables false
set_option linter.unusedSimpArgs false
set_option maxRecDepth 10000
theorem Gm.cnt_rises {G H : Gm} (h1 : G.i ≤ H.i) (h2 : G.b ≤ H.b) (h3 : G.j ≤ H.j) (p : Nat) : G.cnt p ≤ H.cnt p := by
  match p with
  | 0 | 1 | 2 | 3 | 4 | 5 => simp only [Gm.cnt]; omega
  | p + 6 => simp [Gm.cnt]
theorem Gm.off_rises {G H : Gm} (h1 : G.i ≤ H.i) (h2 : G.b ≤ H.b) (h3 : G.j ≤ H.j) (p : Nat) : G.off p ≤ H.off p := by
  induction p with
  | zero => exact Nat.le_refl _
  | succ p ih =>
    have := Gm.cnt_rises h1 h2 h3 p
    rw [Gm.off_succ, Gm.off_succ]; omega
set_option maxRecDepth 50000 in
set_option maxHeartbeats 1000000 in
theorem rises_no (i b j : Int) (x y z : Int) (w : World) (hx : 0 ≤ x) (hx2 : x < 256) (hy : 0 ≤ y) (hy2 : y < 256) (hz : 0 ≤ z) (hz2 : z < 256) (h0 : ¬ mayI i b j ∨ ¬ mayI (i + x) (b + y) (j + z)) :
    Calls Try.prog 6 #[geoV i b j, .int .u8 x, .int .u8 y, .int .u8 z] w fun e w' => e = .returned (.bool true) ∧ Below w.heap.size w w' := by
  by_cases hm : mayI i b j
  · have hm2 : ¬ mayI (i + x) (b + y) (j + z) := by rcases h0 with h | h; exact absurd hm h; exact h
    have M1 := Lib.hid fun W => may_ok _ _ _ W hm
    have M2 := Lib.hid fun W => may_bad _ _ _ W hm2
    obtain ⟨⟨h1, h2⟩, ⟨h3, h4⟩, h5, h6⟩ := hm
    clear h0 hm2
    go_enter Try.func6, Try.ntmps6
    go_wp2_with fail
    with_reducible refine (M1.out _).mono ?_
    rintro e w1 ⟨rfl, hb⟩
    have B := Lib.hid hb
    obtain ⟨hc, hf⟩ := bcell hb
    clear hb
    go_wp2_with fail
    with_reducible refine (M2.out _).mono ?_
    rintro e w2 ⟨rfl, hb⟩
    have B := Lib.hid (B.out.trans (hb.mono B.out.size))
    clear hb hc hf
    go_wp2_with fail
    refine (alive_any _).mono ?_
    rintro e w3 ⟨rfl, hb⟩
    have B := Lib.hid (B.out.trans (hb.mono B.out.size))
    clear hb
    go_wp2_with fail
    go_ret
    exact ⟨rfl, (((Below.refl _ _).alloc (Nat.le_refl _) _).alloc (by simp) _).trans (B.out.mono (by simp; omega))⟩
  · have M1 := Lib.hid fun W => may_bad _ _ _ W hm
    clear h0 hm
    go_enter Try.func6, Try.ntmps6
    go_wp2_with fail
    with_reducible refine (M1.out _).mono ?_
    rintro e w1 ⟨rfl, hb⟩
    have B := Lib.hid hb
    clear hb
    go_wp2_with fail
    refine (alive_any _).mono ?_
    rintro e w2 ⟨rfl, hb⟩
    have B := Lib.hid (B.out.trans (hb.mono B.out.size))
    clear hb
    go_wp2_with fail
    go_ret
    exact ⟨rfl, (((Below.refl _ _).alloc (Nat.le_refl _) _).alloc (by simp) _).trans (B.out.mono (by simp; omega))⟩
set_option maxRecDepth 50000 in
set_option maxHeartbeats 2000000 in
theorem rises_yes (a b c p q r x y z : Nat) (w : World) (hG : (⟨a, b, c⟩ : Gm).ok) (hH : (⟨p, q, r⟩ : Gm).ok) (hx : (a : Int) + (x : Int) = (p : Int)) (hy : (b : Int) + (y : Int) = (q : Int)) (hz : (c : Int) + (z : Int) = (r : Int)) :
    Calls Try.prog 6 #[gv ⟨a, b, c⟩, .int .u8 (x : Int), .int .u8 (y : Int), .int .u8 (z : Int)] w fun e w' => e = .returned (.bool true) ∧ Below w.heap.size w w' := by
  have hxx : x ≤ 256 ∧ y ≤ 1024 ∧ z ≤ 256 ∧ a ≤ 256 ∧ b ≤ 1024 ∧ c ≤ 256 ∧ a ≤ p ∧ b ≤ q ∧ c ≤ r := by unfold Gm.ok at hG hH; simp only at hG hH; omega
  obtain ⟨hx1, hy1, hz1, h1, h2, h3, k1, k2, k3⟩ := hxx
  have M1 := Lib.hid fun W => may_ok (a : Int) (b : Int) (c : Int) W (gm_mayI hG)
  have M2 := Lib.hid fun W => may_ok (p : Int) (q : Int) (r : Int) W (gm_mayI hH)
  have hP1 : ∀ (k : Nat) W, k < 6 → Calls Try.prog 8 #[geoV a b c, .int .i64 (k : Int)] W fun e w' => e = .returned (.tuple #[partV ⟨a, b, c⟩ k, .int .i64 0]) ∧ Below W.heap.size W w' := fun k W hk => part_ok ⟨a, b, c⟩ k (k : Int) rfl W hG hk
  have hP2 : ∀ (k : Nat) W, k < 6 → Calls Try.prog 8 #[geoV p q r, .int .i64 (k : Int)] W fun e w' => e = .returned (.tuple #[partV ⟨p, q, r⟩ k, .int .i64 0]) ∧ Below W.heap.size W w' := fun k W hk => part_ok ⟨p, q, r⟩ k (k : Int) rfl W hH hk
  have hS1 : ∀ W, Calls Try.prog 12 #[geoV a b c] W fun e w' => e = .returned (.tuple #[str (superL ⟨a, b, c⟩), .int .i64 0]) ∧ Below W.heap.size W w' := fun W => super_ok ⟨a, b, c⟩ W hG
  have hS2 : ∀ W, Calls Try.prog 12 #[geoV p q r] W fun e w' => e = .returned (.tuple #[str (superL ⟨p, q, r⟩), .int .i64 0]) ∧ Below W.heap.size W w' := fun W => super_ok ⟨p, q, r⟩ W hH
  have hN1 : ∀ W, Calls Try.prog 17 #[geoV a b c] W fun e w' => e = .returned (.int .i64 ((⟨a, b, c⟩ : Gm).all : Int)) ∧ Below W.heap.size W w' := fun W => sectors_ok ⟨a, b, c⟩ W hG
  have hN2 : ∀ W, Calls Try.prog 17 #[geoV p q r] W fun e w' => e = .returned (.int .i64 ((⟨p, q, r⟩ : Gm).all : Int)) ∧ Below W.heap.size W w' := fun W => sectors_ok ⟨p, q, r⟩ W hH
  have P1 := Lib.hid hP1
  have P2 := Lib.hid hP2
  have S1 := Lib.hid hS1
  have S2 := Lib.hid hS2
  have N1 := Lib.hid hN1
  have N2 := Lib.hid hN2
  have RO := Lib.hid fun k => Gm.off_rises (G := ⟨a, b, c⟩) (H := ⟨p, q, r⟩) k1 k2 k3 k
  have RC := Lib.hid fun k => Gm.cnt_rises (G := ⟨a, b, c⟩) (H := ⟨p, q, r⟩) k1 k2 k3 k
  have E0 : Hid (superL ⟨a, b, c⟩ = superL ⟨p, q, r⟩ ↔ (a = p ∧ b = q ∧ c = r)) := Lib.hid ⟨fun e => by
    have h := superL_inj hG hH e
    exact ⟨congrArg Gm.i h, congrArg Gm.b h, congrArg Gm.j h⟩, fun ⟨a1, a2, a3⟩ => by subst a1 a2 a3; rfl⟩
  have Z1 := Lib.hid fun k (hk : k ≤ 6) => Gm.off_le hG k hk
  have Z2 := Lib.hid fun k (hk : k ≤ 6) => Gm.off_le hH k hk
  have Z3 := Lib.hid fun k => Gm.cnt_le hG k
  have Z4 := Lib.hid fun k => Gm.cnt_le hH k
  clear hP1 hP2 hS1 hS2 hN1 hN2 hG hH
  show Calls Try.prog 6 #[geoV (a : Int) (b : Int) (c : Int), .int .u8 (x : Int), .int .u8 (y : Int), .int .u8 (z : Int)] w fun e w' => e = .returned (.bool true) ∧ Below w.heap.size w w'
  generalize hGG : (⟨a, b, c⟩ : Gm) = G at *
  generalize hHH : (⟨p, q, r⟩ : Gm) = H at *
  clear hGG hHH
  go_enter Try.func6, Try.ntmps6
  go_wp2_with fail
  with_reducible refine (M1.out _).mono ?_
  rintro e w1 ⟨rfl, hb⟩
  have B := Lib.hid hb
  obtain ⟨hc, hf⟩ := bcell hb
  clear hb
  go_wp2_with fail
  with_reducible refine (M2.out _).mono ?_
  rintro e w2 ⟨rfl, hb⟩
  have B := Lib.hid (B.out.trans (hb.mono B.out.size))
  clear hb hc hf
  go_wp2_with fail
  have hr1 := (B.out.block w.heap.size (by simp; omega)).trans (heap_low w _ _)
  have hr2 := (B.out.block (w.heap.size + 1) (by simp)).trans (heap_new2 w _ _)
  have hb0 := (((Below.refl _ _).alloc (Nat.le_refl w.heap.size) _).alloc (by simp) _).trans (B.out.mono (by simp; omega))
  have R1 := Lib.hid hr1
  have R2 := Lib.hid hr2
  have HB0 := Lib.hid hb0
  clear hr1 hr2 hb0
  go_loopw [10, 11, 12, 13, 14] (fun i _ _ _ _ wr => ∃ k : Nat, k ≤ 6 ∧ i = .int .i64 k ∧ wr.heap[w.heap.size]? = some (.cells #[.int .i64 (a : Int), .int .i64 (b : Int), .int .i64 (c : Int)] 23 (0, 0)) ∧ wr.heap[w.heap.size + 1]? = some (.cells #[.int .i64 (p : Int), .int .i64 (q : Int), .int .i64 (r : Int)] 23 (0, 0)) ∧ Below w.heap.size w wr) (fun i _ _ _ _ _ => 6 - (intOf i).toNat)
  case atStart => exact ⟨0, by omega, rfl, R1.out, R2.out, HB0.out⟩
  case round =>
    obtain ⟨k, hk, rfl, hg, hl, hb⟩ := hrel
    have hzw := (Array.getElem?_eq_some_iff.1 hl).1
    have Hg := Lib.hid hg
    have Hl := Lib.hid hl
    obtain ⟨g0, g1, g2⟩ := gcells rfl hg
    obtain ⟨l0, l1, l2⟩ := gcells rfl hl
    clear hg hl
    by_cases hlt : k < 6
    · have hlt' : (k : Int) < 6 := by omega
      have hk0 : 0 ≤ (k : Int) := by omega
      have HP1 := Lib.hid fun W => P1.out k W hlt
      have HP2 := Lib.hid fun W => P2.out k W hlt
      have q1 := RO.out k
      have q2 := RC.out k
      have z1 := Z1.out k hk
      have z2 := Z2.out k hk
      have z3 := Z3.out k
      have z4 := Z4.out k
      go_wp2_with fail
      with_reducible refine (HP1.out _).mono ?_
      rintro e w3 ⟨rfl, hb3⟩
      have B3 := Lib.hid hb3
      obtain ⟨l0, l1, l2⟩ := gcells (hb3.block _ hzw) Hl.out
      have hz3 : w.heap.size + 1 < w3.heap.size := by have := hb3.size; omega
      clear hb3 g0 g1 g2
      go_wp2_with fail
      with_reducible refine (HP2.out _).mono ?_
      rintro e w4 ⟨rfl, hb4⟩
      have hs4 := hb4.size
      have e0 := (hb4.block w3.heap.size (by simp)).trans (heap_alloc_new w3 _)
      have d0 := cell_of_row w4 w3.heap.size 0 _ 28 (0, 0) e0
      have d1 := cell_of_row w4 w3.heap.size 1 _ 28 (0, 0) e0
      simp only [List.getElem?_toArray, List.getElem?_cons_zero, List.getElem?_cons_succ] at d0 d1
      have hz4 : w3.heap.size < w4.heap.size := by simp at hs4; omega
      have B4 := Lib.hid (((Below.refl _ _).trans B3.out).alloc B3.out.size _ |>.trans (hb4.mono (by simp; have := B3.out.size; omega)))
      clear hb4 e0 l0 l1 l2 hs4
      go_wp2_with fail
      go_roundw
      case rel =>
        have hB : Below wr.heap.size wr (w4.alloc (.cells #[.int .i64 (H.off k : Int), .int .i64 (H.cnt k : Int)] 28)) := B4.out.alloc B4.out.size _
        exact ⟨k + 1, by omega, by go_num, (hB.block _ (by omega)).trans Hg.out, (hB.block _ hzw).trans Hl.out, hb.trans (hB.mono hb.size)⟩
      case measure => simp [intOf]; omega
    · have hkq : k = 6 := by omega
      subst hkq
      have hE := E0.out
      have C := Lib.hid (Below.refl wr.heap.size wr)
      have hz1 : w.heap.size < wr.heap.size := by omega
      have HBW := Lib.hid hb
      have hq := RO.out 6
      have hcase : (a = p ∧ b = q ∧ c = r) ∨ a ≠ p ∨ (a = p ∧ b ≠ q) ∨ (a = p ∧ b = q ∧ c ≠ r) := by omega
      rcases hcase with h0 | hne
      · have e1 := hE.2 h0
        obtain ⟨rfl, rfl, rfl⟩ := h0
        rw [← e1] at S2
        generalize superL G = t1 at *
        clear hE e1
        go_wp2_with fail
        with_reducible refine (S1.out _).mono ?_
        rintro e w5 ⟨rfl, hb5⟩
        have C := Lib.hid (C.out.trans (hb5.mono C.out.size))
        obtain ⟨g0, g1, g2⟩ := gcells (C.out.block _ hz1) Hg.out
        obtain ⟨l0, l1, l2⟩ := gcells (C.out.block _ hzw) Hl.out
        clear hb5
        go_wp2_with fail
        with_reducible refine (S2.out _).mono ?_
        rintro e w6 ⟨rfl, hb6⟩
        have C := Lib.hid (C.out.trans (hb6.mono C.out.size))
        obtain ⟨g0, g1, g2⟩ := gcells (C.out.block _ hz1) Hg.out
        obtain ⟨l0, l1, l2⟩ := gcells (C.out.block _ hzw) Hl.out
        clear hb6
        go_wp2_with fail
        have C := Lib.hid C.out.drew
        go_region_held3 (fun W => W.cell? ⟨w.heap.size, 0, none⟩ = some (.int .i64 (a : Int)) ∧ W.cell? ⟨w.heap.size, 1, none⟩ = some (.int .i64 (b : Int)) ∧ W.cell? ⟨w.heap.size, 2, none⟩ = some (.int .i64 (c : Int)) ∧ W.cell? ⟨w.heap.size + 1, 0, none⟩ = some (.int .i64 (a : Int)) ∧ W.cell? ⟨w.heap.size + 1, 1, none⟩ = some (.int .i64 (b : Int)) ∧ W.cell? ⟨w.heap.size + 1, 2, none⟩ = some (.int .i64 (c : Int)))
          (exact ⟨g0, g1, g2, l0, l1, l2⟩)
          (first | (go_at_call 17; ((first | (with_reducible refine (N1.out _).mono ?_) | (with_reducible refine (N2.out _).mono ?_)); rintro e w7 ⟨rfl, hb⟩; have C := Lib.hid (C.out.trans (hb.mono C.out.size)); obtain ⟨g0, g1, g2⟩ := gcells (C.out.block _ hz1) Hg.out; obtain ⟨l0, l1, l2⟩ := gcells (C.out.block _ hzw) Hl.out)) | (go_at_call 7; refine (alive_any _).mono ?_; rintro e w7 ⟨rfl, hb⟩; have C := Lib.hid (C.out.trans (hb.mono C.out.size)); obtain ⟨g0, g1, g2⟩ := gcells (C.out.block _ hz1) Hg.out; obtain ⟨l0, l1, l2⟩ := gcells (C.out.block _ hzw) Hl.out))
        go_wp2_with fail
        go_ret
        exact ⟨rfl, HBW.out.trans (C.out.mono HBW.out.size)⟩
      · have hts : (superL G == superL H) = false := by
          rw [beq_eq_false_iff_ne]; intro e; have := hE.1 e; omega
        generalize superL G = t1 at *
        generalize superL H = t2 at *
        clear hE
        rcases hne with hne | ⟨rfl, hne⟩ | ⟨rfl, rfl, hne⟩
        · have j1 : ((a : Int) == (p : Int)) = false := by rw [beq_eq_false_iff_ne]; omega
          have j2 : (a == p) = false := by rw [beq_eq_false_iff_ne]; exact hne
          have j3 : ¬ (a : Int) = (p : Int) := by omega
          go_wp2_with fail
          with_reducible refine (S1.out _).mono ?_
          rintro e w5 ⟨rfl, hb5⟩
          have C := Lib.hid (C.out.trans (hb5.mono C.out.size))
          obtain ⟨g0, g1, g2⟩ := gcells (C.out.block _ hz1) Hg.out
          obtain ⟨l0, l1, l2⟩ := gcells (C.out.block _ hzw) Hl.out
          clear hb5
          go_wp2_with fail
          with_reducible refine (S2.out _).mono ?_
          rintro e w6 ⟨rfl, hb6⟩
          have C := Lib.hid (C.out.trans (hb6.mono C.out.size))
          obtain ⟨g0, g1, g2⟩ := gcells (C.out.block _ hz1) Hg.out
          obtain ⟨l0, l1, l2⟩ := gcells (C.out.block _ hzw) Hl.out
          clear hb6
          go_wp2_with fail
          have C := Lib.hid C.out.drew
          go_region_held3 (fun W => W.cell? ⟨w.heap.size, 0, none⟩ = some (.int .i64 (a : Int)) ∧ W.cell? ⟨w.heap.size, 1, none⟩ = some (.int .i64 (b : Int)) ∧ W.cell? ⟨w.heap.size, 2, none⟩ = some (.int .i64 (c : Int)) ∧ W.cell? ⟨w.heap.size + 1, 0, none⟩ = some (.int .i64 (p : Int)) ∧ W.cell? ⟨w.heap.size + 1, 1, none⟩ = some (.int .i64 (q : Int)) ∧ W.cell? ⟨w.heap.size + 1, 2, none⟩ = some (.int .i64 (r : Int)))
            (exact ⟨g0, g1, g2, l0, l1, l2⟩)
            (first | (go_at_call 17; ((first | (with_reducible refine (N1.out _).mono ?_) | (with_reducible refine (N2.out _).mono ?_)); rintro e w7 ⟨rfl, hb⟩; have C := Lib.hid (C.out.trans (hb.mono C.out.size)); obtain ⟨g0, g1, g2⟩ := gcells (C.out.block _ hz1) Hg.out; obtain ⟨l0, l1, l2⟩ := gcells (C.out.block _ hzw) Hl.out)) | (go_at_call 7; refine (alive_any _).mono ?_; rintro e w7 ⟨rfl, hb⟩; have C := Lib.hid (C.out.trans (hb.mono C.out.size)); obtain ⟨g0, g1, g2⟩ := gcells (C.out.block _ hz1) Hg.out; obtain ⟨l0, l1, l2⟩ := gcells (C.out.block _ hzw) Hl.out))
          go_wp2_with fail
          go_ret
          exact ⟨rfl, HBW.out.trans (C.out.mono HBW.out.size)⟩
        · have j1 : ((b : Int) == (q : Int)) = false := by rw [beq_eq_false_iff_ne]; omega
          have j2 : (b == q) = false := by rw [beq_eq_false_iff_ne]; exact hne
          have j3 : ¬ (b : Int) = (q : Int) := by omega
          go_wp2_with fail
          with_reducible refine (S1.out _).mono ?_
          rintro e w5 ⟨rfl, hb5⟩
          have C := Lib.hid (C.out.trans (hb5.mono C.out.size))
          obtain ⟨g0, g1, g2⟩ := gcells (C.out.block _ hz1) Hg.out
          obtain ⟨l0, l1, l2⟩ := gcells (C.out.block _ hzw) Hl.out
          clear hb5
          go_wp2_with fail
          with_reducible refine (S2.out _).mono ?_
          rintro e w6 ⟨rfl, hb6⟩
          have C := Lib.hid (C.out.trans (hb6.mono C.out.size))
          obtain ⟨g0, g1, g2⟩ := gcells (C.out.block _ hz1) Hg.out
          obtain ⟨l0, l1, l2⟩ := gcells (C.out.block _ hzw) Hl.out
          clear hb6
          go_wp2_with fail
          have C := Lib.hid C.out.drew
          go_region_held3 (fun W => W.cell? ⟨w.heap.size, 0, none⟩ = some (.int .i64 (a : Int)) ∧ W.cell? ⟨w.heap.size, 1, none⟩ = some (.int .i64 (b : Int)) ∧ W.cell? ⟨w.heap.size, 2, none⟩ = some (.int .i64 (c : Int)) ∧ W.cell? ⟨w.heap.size + 1, 0, none⟩ = some (.int .i64 (a : Int)) ∧ W.cell? ⟨w.heap.size + 1, 1, none⟩ = some (.int .i64 (q : Int)) ∧ W.cell? ⟨w.heap.size + 1, 2, none⟩ = some (.int .i64 (r : Int)))
            (exact ⟨g0, g1, g2, l0, l1, l2⟩)
            (first | (go_at_call 17; ((first | (with_reducible refine (N1.out _).mono ?_) | (with_reducible refine (N2.out _).mono ?_)); rintro e w7 ⟨rfl, hb⟩; have C := Lib.hid (C.out.trans (hb.mono C.out.size)); obtain ⟨g0, g1, g2⟩ := gcells (C.out.block _ hz1) Hg.out; obtain ⟨l0, l1, l2⟩ := gcells (C.out.block _ hzw) Hl.out)) | (go_at_call 7; refine (alive_any _).mono ?_; rintro e w7 ⟨rfl, hb⟩; have C := Lib.hid (C.out.trans (hb.mono C.out.size)); obtain ⟨g0, g1, g2⟩ := gcells (C.out.block _ hz1) Hg.out; obtain ⟨l0, l1, l2⟩ := gcells (C.out.block _ hzw) Hl.out))
          go_wp2_with fail
          go_ret
          exact ⟨rfl, HBW.out.trans (C.out.mono HBW.out.size)⟩
        · have j1 : ((c : Int) == (r : Int)) = false := by rw [beq_eq_false_iff_ne]; omega
          have j2 : (c == r) = false := by rw [beq_eq_false_iff_ne]; exact hne
          have j3 : ¬ (c : Int) = (r : Int) := by omega
          go_wp2_with fail
          with_reducible refine (S1.out _).mono ?_
          rintro e w5 ⟨rfl, hb5⟩
          have C := Lib.hid (C.out.trans (hb5.mono C.out.size))
          obtain ⟨g0, g1, g2⟩ := gcells (C.out.block _ hz1) Hg.out
          obtain ⟨l0, l1, l2⟩ := gcells (C.out.block _ hzw) Hl.out
          clear hb5
          go_wp2_with fail
          with_reducible refine (S2.out _).mono ?_
          rintro e w6 ⟨rfl, hb6⟩
          have C := Lib.hid (C.out.trans (hb6.mono C.out.size))
          obtain ⟨g0, g1, g2⟩ := gcells (C.out.block _ hz1) Hg.out
          obtain ⟨l0, l1, l2⟩ := gcells (C.out.block _ hzw) Hl.out
          clear hb6
          go_wp2_with fail
          have C := Lib.hid C.out.drew
          go_region_held3 (fun W => W.cell? ⟨w.heap.size, 0, none⟩ = some (.int .i64 (a : Int)) ∧ W.cell? ⟨w.heap.size, 1, none⟩ = some (.int .i64 (b : Int)) ∧ W.cell? ⟨w.heap.size, 2, none⟩ = some (.int .i64 (c : Int)) ∧ W.cell? ⟨w.heap.size + 1, 0, none⟩ = some (.int .i64 (a : Int)) ∧ W.cell? ⟨w.heap.size + 1, 1, none⟩ = some (.int .i64 (b : Int)) ∧ W.cell? ⟨w.heap.size + 1, 2, none⟩ = some (.int .i64 (r : Int)))
            (exact ⟨g0, g1, g2, l0, l1, l2⟩)
            (first | (go_at_call 17; ((first | (with_reducible refine (N1.out _).mono ?_) | (with_reducible refine (N2.out _).mono ?_)); rintro e w7 ⟨rfl, hb⟩; have C := Lib.hid (C.out.trans (hb.mono C.out.size)); obtain ⟨g0, g1, g2⟩ := gcells (C.out.block _ hz1) Hg.out; obtain ⟨l0, l1, l2⟩ := gcells (C.out.block _ hzw) Hl.out)) | (go_at_call 7; refine (alive_any _).mono ?_; rintro e w7 ⟨rfl, hb⟩; have C := Lib.hid (C.out.trans (hb.mono C.out.size)); obtain ⟨g0, g1, g2⟩ := gcells (C.out.block _ hz1) Hg.out; obtain ⟨l0, l1, l2⟩ := gcells (C.out.block _ hzw) Hl.out))
          go_wp2_with fail
          go_ret
          exact ⟨rfl, HBW.out.trans (C.out.mono HBW.out.size)⟩
theorem rises_any (i b j x y z : Int) (w : World) (hx : 0 ≤ x) (hx2 : x < 256) (hy : 0 ≤ y) (hy2 : y < 256) (hz : 0 ≤ z) (hz2 : z < 256) :
    Calls Try.prog 6 #[geoV i b j, .int .u8 x, .int .u8 y, .int .u8 z] w fun e w' => e = .returned (.bool true) ∧ Below w.heap.size w w' := by
  by_cases h1 : mayI i b j
  · by_cases h2 : mayI (i + x) (b + y) (j + z)
    · obtain ⟨G, hG, rfl, rfl, rfl⟩ := mayI_gm h1
      obtain ⟨H, hH, e1, e2, e3⟩ := mayI_gm h2
      obtain ⟨p, q, r⟩ := H
      obtain ⟨a, b, c⟩ := G
      obtain ⟨x', rfl⟩ : ∃ x' : Nat, x = (x' : Int) := ⟨x.toNat, by omega⟩
      obtain ⟨y', rfl⟩ : ∃ y' : Nat, y = (y' : Int) := ⟨y.toNat, by omega⟩
      obtain ⟨z', rfl⟩ : ∃ z' : Nat, z = (z' : Int) := ⟨z.toNat, by omega⟩
      exact rises_yes a b c p q r x' y' z' w hG hH e1 e2 e3
    · exact rises_no i b j x y z w hx hx2 hy hy2 hz hz2 (.inr h2)
  · exact rises_no i b j x y z w hx hx2 hy hy2 hz hz2 (.inl h1)
theorem walk_GeoRises (i b j x y z : Int) (wx : (Lit.int .u8 x).wf = true) (wy : (Lit.int .u8 y).wf = true) (wz : (Lit.int .u8 z).wf = true) (w : World) :
    Calls Try.prog 6 #[geoV i b j, .int .u8 x, .int .u8 y, .int .u8 z] w fun e w' => e = .returned (.bool true) ∧ Below w.heap.size w w' := by
  simp [Lit.wf, IntKind.min, IntKind.max, IntKind.bits, IntKind.signed] at wx wy wz
  exact rises_any i b j x y z w (by omega) (by omega) (by omega) (by omega) (by omega) (by omega)
end Go.Proofs.Ytoighnnjadmoiaa
