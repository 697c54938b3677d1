/- Layer 9 (bmap), the document's answers: Begin. Written by tools/genbmapr5.py. -/
import Derived.Test.YtdddennhdbmolaaGreatBmapR4
namespace Go.Proofs.YtdddennhdbmolaaGreat
open Go.RowKit Go.Maps Go.Lib
set_option linter.unusedVariables false
set_option linter.unusedSimpArgs false
set_option maxRecDepth 10000
attribute [local go_sem ↓] ino_store_fold
set_option maxHeartbeats 2000000 in
theorem rbegin_no (r : Value) (G : Gm) (hG : G.ok) (x : Im) (hxf : x.fits) (c : Nat) (hc : c < 65536) (hbad : ¬ (fitB G x c ∧ c ≠ 0 ∧ x.i = 0)) (w : World) :
    Calls Tryz.prog 38 #[r, gv G, x.v, w16 c] w fun e w' => e = .returned (.tuple #[Im.nought.v, .int .i64 2]) ∧ Below w.heap.size w w' := by
  obtain ⟨hGe, hX, hZ, hB⟩ := box_giz w G.i G.b G.j x
  generalize hW : (((w.alloc (.cells #[.int .i64 G.i, .int .i64 G.b, .int .i64 G.j] 23)).alloc (.cells #[.int .u8 x.k, w16 x.n, .int .u32 x.z, w16 x.d0, w16 x.d1, w16 x.d2, w16 x.d3, w16 x.i] 28)).alloc (.cells #[.int .u8 0, .int .u16 0, .int .u32 0, .int .u16 0, .int .u16 0, .int .u16 0, .int .u16 0, .int .u16 0] 28)) = W0 at *
  obtain ⟨g0, g1, g2, x0, x1, x2, x3, x4, x5, x6, x7⟩ := Boxes.of hGe hX
  have HG := Lib.hid hGe
  have HX := Lib.hid hX
  have HZ := Lib.hid hZ
  have HB := Lib.hid hB
  have HW := Lib.hid hW
  clear hW hGe hX hZ hB
  by_cases hf : fitB G x c
  · have hM := fun V => refMay9_any G hG x hxf c (by first | omega | assumption) V
    rw [decide_eq_true hf] at hM
    have HM := Lib.hid hM
    clear hM
    by_cases h0 : c = 0
    · have hcb : ((c : Int) == 0) = true := by rw [h0]; rfl
      clear hbad h0 hf hG hxf hc
      go_enter Tryz.func38, Tryz.ntmps38
      go_wp2_with fail
      rw [HW.out]
      clear HW
      refine (HM.out _).mono ?_
      rintro e w1 ⟨rfl, hb⟩
      have HB1 := Lib.hid hb
      have HG1 := Lib.hid (HG.out.below HB1.out)
      have HX1 := Lib.hid (HX.out.below HB1.out HX.out.lt)
      obtain ⟨g0, g1, g2, x0, x1, x2, x3, x4, x5, x6, x7⟩ := Boxes.of HG1.out HX1.out
      have HZ1 := Lib.hid (HZ.out.below HB1.out HZ.out.lt)
      clear hb
      obtain ⟨w2, hs, hz, -, hb2⟩ := ino_store HZ1.out Im.nought
      have hs2 : (inoStore (.pointer (some ⟨w.heap.size + 1 + 1, 0, none⟩)) (.agg #[.int .u8 0, .int .u16 0, .int .u32 0, .int .u16 0, .int .u16 0, .int .u16 0, .int .u16 0, .int .u16 0])).run Tryz.prog w1 = .ok () w2 := hs
      have HZ2 := Lib.hid hz
      have HB2 := Lib.hid ((HB.out.trans (HB1.out.mono HB.out.size)).trans (hb2 _ (by omega)))
      clear hs hz hb2
      go_wp2_with fail
      refine bodyPost_ret (v := .tuple #[Im.nought.v, .int .i64 2]) ?_ rfl ⟨rfl, HB2.out⟩
      exact results_row_tmp (p := 8) (q := 9) rfl _ _ (w.heap.size + 1 + 1) _ rfl (ino_var HZ2.out)
    · have hcb : ((c : Int) == 0) = false := by simp; omega
      have hi : x.i ≠ 0 := fun e => hbad ⟨hf, h0, e⟩
      have hib : ((x.i : Int) != 0) = true := by simp; omega
      clear hbad h0 hf hG hxf hc hi
      go_enter Tryz.func38, Tryz.ntmps38
      go_wp2_with fail
      rw [HW.out]
      clear HW
      refine (HM.out _).mono ?_
      rintro e w1 ⟨rfl, hb⟩
      have HB1 := Lib.hid hb
      have HG1 := Lib.hid (HG.out.below HB1.out)
      have HX1 := Lib.hid (HX.out.below HB1.out HX.out.lt)
      obtain ⟨g0, g1, g2, x0, x1, x2, x3, x4, x5, x6, x7⟩ := Boxes.of HG1.out HX1.out
      have HZ1 := Lib.hid (HZ.out.below HB1.out HZ.out.lt)
      clear hb
      obtain ⟨w2, hs, hz, -, hb2⟩ := ino_store HZ1.out Im.nought
      have hs2 : (inoStore (.pointer (some ⟨w.heap.size + 1 + 1, 0, none⟩)) (.agg #[.int .u8 0, .int .u16 0, .int .u32 0, .int .u16 0, .int .u16 0, .int .u16 0, .int .u16 0, .int .u16 0])).run Tryz.prog w1 = .ok () w2 := hs
      have HZ2 := Lib.hid hz
      have HB2 := Lib.hid ((HB.out.trans (HB1.out.mono HB.out.size)).trans (hb2 _ (by omega)))
      clear hs hz hb2
      go_wp2_with fail
      refine bodyPost_ret (v := .tuple #[Im.nought.v, .int .i64 2]) ?_ rfl ⟨rfl, HB2.out⟩
      exact results_row_tmp (p := 8) (q := 9) rfl _ _ (w.heap.size + 1 + 1) _ rfl (ino_var HZ2.out)
  · have hM := fun V => refMay9_any G hG x hxf c (by first | omega | assumption) V
    rw [decide_eq_false hf] at hM
    have HM := Lib.hid hM
    clear hM
    clear hbad hf hG hxf hc
    go_enter Tryz.func38, Tryz.ntmps38
    go_wp2_with fail
    rw [HW.out]
    clear HW
    refine (HM.out _).mono ?_
    rintro e w1 ⟨rfl, hb⟩
    have HB1 := Lib.hid hb
    have HG1 := Lib.hid (HG.out.below HB1.out)
    have HX1 := Lib.hid (HX.out.below HB1.out HX.out.lt)
    obtain ⟨g0, g1, g2, x0, x1, x2, x3, x4, x5, x6, x7⟩ := Boxes.of HG1.out HX1.out
    have HZ1 := Lib.hid (HZ.out.below HB1.out HZ.out.lt)
    clear hb
    obtain ⟨w2, hs, hz, -, hb2⟩ := ino_store HZ1.out Im.nought
    have hs2 : (inoStore (.pointer (some ⟨w.heap.size + 1 + 1, 0, none⟩)) (.agg #[.int .u8 0, .int .u16 0, .int .u32 0, .int .u16 0, .int .u16 0, .int .u16 0, .int .u16 0, .int .u16 0])).run Tryz.prog w1 = .ok () w2 := hs
    have HZ2 := Lib.hid hz
    have HB2 := Lib.hid ((HB.out.trans (HB1.out.mono HB.out.size)).trans (hb2 _ (by omega)))
    clear hs hz hb2
    go_wp2_with fail
    refine bodyPost_ret (v := .tuple #[Im.nought.v, .int .i64 2]) ?_ rfl ⟨rfl, HB2.out⟩
    exact results_row_tmp (p := 8) (q := 9) rfl _ _ (w.heap.size + 1 + 1) _ rfl (ino_var HZ2.out)
set_option maxHeartbeats 4000000 in
theorem rbegin_ok (rb : Nat) (G : Gm) (hG : G.ok) (x : Im) (hxf : x.fits) (c : Nat) (hc : c < 65536) (hok : fitB G x c ∧ c ≠ 0 ∧ x.i = 0) (e0 : Int) (w : World) (m0 : Nat) (hm : m0 < w.heap.size) (Q : Nat → World → Prop)
    (hQ : ∀ n V V', w.heap.size ≤ n → Q n V → (∀ k, k < w.heap.size ∨ n ≤ k → V'.heap[k]? = V.heap[k]?) → Q w.heap.size V')
    (hT : ∀ V, Below w.heap.size w V → Calls Tryz.prog 60 #[devp rb, gv G, ({ x with i := c } : Im).v, .slice none 0 0] V fun e w' => e = .returned (.int .i64 e0) ∧ Q V.heap.size w' ∧ Only (fun k => k = m0) V w') :
    Calls Tryz.prog 38 #[devp rb, gv G, x.v, w16 c] w fun e w' => ∃ y : Im, e = .returned (.tuple #[y.v, .int .i64 e0]) ∧ (e0 = 0 → y = { x with i := c }) ∧ (e0 ≠ 0 → y = Im.nought) ∧ Q w.heap.size w' ∧ Only (fun k => k = m0) w w' := by
  obtain ⟨hGe, hX, hZ, hB⟩ := box_giz w G.i G.b G.j x
  generalize hW : (((w.alloc (.cells #[.int .i64 G.i, .int .i64 G.b, .int .i64 G.j] 23)).alloc (.cells #[.int .u8 x.k, w16 x.n, .int .u32 x.z, w16 x.d0, w16 x.d1, w16 x.d2, w16 x.d3, w16 x.i] 28)).alloc (.cells #[.int .u8 0, .int .u16 0, .int .u32 0, .int .u16 0, .int .u16 0, .int .u16 0, .int .u16 0, .int .u16 0] 28)) = W0 at *
  obtain ⟨g0, g1, g2, x0, x1, x2, x3, x4, x5, x6, x7⟩ := Boxes.of hGe hX
  have HG := Lib.hid hGe
  have HX := Lib.hid hX
  have HZ := Lib.hid hZ
  have HB := Lib.hid hB
  have HW := Lib.hid hW
  clear hW hGe hX hZ hB
  have hM := fun V => refMay9_any G hG x hxf c (by first | omega | assumption) V
  rw [decide_eq_true hok.1] at hM
  have HM := Lib.hid hM
  clear hM
  have HT := Lib.hid hT
  have HQ := Lib.hid hQ
  have hcb : ((c : Int) == 0) = false := by have := hok.2.1; simp; omega
  have hib : ((x.i : Int) != 0) = false := by rw [hok.2.2]; rfl
  clear hT hQ hok hG hxf hc
  go_enter Tryz.func38, Tryz.ntmps38
  go_wp2_with fail
  rw [HW.out]
  clear HW
  refine (HM.out _).mono ?_
  rintro e w1 ⟨rfl, hb⟩
  have HB1 := Lib.hid hb
  have HG1 := Lib.hid (HG.out.below HB1.out)
  have HX1 := Lib.hid (HX.out.below HB1.out HX.out.lt)
  obtain ⟨g0, g1, g2, x0, x1, x2, x3, x4, x5, x6, x7⟩ := Boxes.of HG1.out HX1.out
  have HZ1 := Lib.hid (HZ.out.below HB1.out HZ.out.lt)
  have HW1 := Lib.hid (HB.out.trans (HB1.out.mono HB.out.size))
  clear hb
  have hX2 := setInd_cells HX1.out c
  have hset : ∀ k, k ≠ w.heap.size + 1 → (w1.setCell ⟨w.heap.size + 1, 7, none⟩ (w16 c)).heap[k]? = w1.heap[k]? := fun k hk => heap_setCell_other _ _ _ _ (by simpa using hk)
  have hG2 : GeoAt (w1.setCell ⟨w.heap.size + 1, 7, none⟩ (w16 c)) w.heap.size G.i G.b G.j := (hset _ (by omega)).trans HG1.out
  have hZ2 : InoAt (w1.setCell ⟨w.heap.size + 1, 7, none⟩ (w16 c)) (w.heap.size + 1 + 1) Im.nought := (hset _ (by omega)).trans HZ1.out
  have hfr : w1.frozen? ⟨w.heap.size + 1, 7, none⟩ = false := frozen_of_row w1 _ _ _ _ HX1.out
  have HB3 := Lib.hid (HW1.out.setCell (p := ⟨w.heap.size + 1, 7, none⟩) (by simp) (w16 c))
  have HX3 := Lib.hid hX2
  have HZ3 := Lib.hid hZ2
  have hold := x7
  have b7 := x7
  obtain ⟨g0', g1', g2', y0, y1, y2, y3, y4, y5, y6, y7⟩ := Boxes.of hG2 hX2
  clear hX2 hG2 hZ2 hset b7
  go_wp2_with fail
  generalize (w1.setCell ⟨w.heap.size + 1, 7, none⟩ (w16 c)) = w5 at *
  refine (HT.out _ HB3.out).mono ?_
  rintro e w6 ⟨rfl, hq6, ho6⟩
  have hX6 : InoAt w6 (w.heap.size + 1) { x with i := c } := (ho6.block _ HX3.out.lt (by omega)).trans HX3.out
  have hZ6 : InoAt w6 (w.heap.size + 1 + 1) Im.nought := (ho6.block _ HZ3.out.lt (by omega)).trans HZ3.out
  have hlt5 := HZ3.out.lt
  have hle5 := HB3.out.size
  have ho0 : Only (fun k => k = m0) w w6 := (Only.of_below (S := fun k => k = m0) HB3.out).trans ho6 fun k hk => .inl hk
  obtain ⟨x0, x1, x2, x3, x4, x5, x6, x7⟩ := Boxes.cells hX6
  have HO := Lib.hid ho0
  have HQ6 := Lib.hid hq6
  have HZ6 := Lib.hid hZ6
  clear ho0 ho6 hq6 hX6 hZ6 hfr
  by_cases hr : e0 = 0
  · obtain ⟨w7, hs, hz7, ho7, hb7⟩ := ino_store HZ6.out { x with i := c }
    have HZ7 := Lib.hid hz7
    have HQ7 := Lib.hid (HQ.out _ w6 w7 hle5 HQ6.out fun k hk => ho7 k (by omega))
    have HO7 := Lib.hid (HO.out.trans ⟨(hb7 0 (Nat.zero_le _)).os, (hb7 0 (Nat.zero_le _)).tape, (hb7 0 (Nat.zero_le _)).output, (hb7 0 (Nat.zero_le _)).size, fun k _ hn => ho7 k hn⟩ (S' := fun k => k = w.heap.size + 1 + 1) fun k hk => .inr (by omega))
    have HR0 := Lib.hid hr
    have hne : (e0 != 0) = false := by simpa using hr
    clear hz7 ho7 hb7 hr
    go_wp2_with fail
    refine bodyPost_ret (v := .tuple #[({ x with i := c } : Im).v, .int .i64 e0]) ?_ rfl ⟨_, rfl, fun _ => rfl, fun h => absurd HR0.out h, HQ7.out, HO7.out⟩
    rw [HR0.out]
    exact results_row_tmp (p := 8) (q := 9) rfl _ _ (w.heap.size + 1 + 1) _ rfl (ino_var HZ7.out)
  · obtain ⟨w7, hs, hz7, ho7, hb7⟩ := ino_store HZ6.out Im.nought
    have hs7 : (inoStore (.pointer (some ⟨w.heap.size + 1 + 1, 0, none⟩)) (.agg #[.int .u8 0, .int .u16 0, .int .u32 0, .int .u16 0, .int .u16 0, .int .u16 0, .int .u16 0, .int .u16 0])).run Tryz.prog w6 = .ok () w7 := hs
    have HZ7 := Lib.hid hz7
    have HQ7 := Lib.hid (HQ.out _ w6 w7 hle5 HQ6.out fun k hk => ho7 k (by omega))
    have HO7 := Lib.hid (HO.out.trans ⟨(hb7 0 (Nat.zero_le _)).os, (hb7 0 (Nat.zero_le _)).tape, (hb7 0 (Nat.zero_le _)).output, (hb7 0 (Nat.zero_le _)).size, fun k _ hn => ho7 k hn⟩ (S' := fun k => k = w.heap.size + 1 + 1) fun k hk => .inr (by omega))
    have HR0 := Lib.hid hr
    have hne : (e0 != 0) = true := by simpa using hr
    clear hz7 ho7 hb7 hr hs
    go_wp2_with fail
    refine bodyPost_ret (v := .tuple #[Im.nought.v, .int .i64 e0]) ?_ rfl ⟨Im.nought, rfl, fun h => absurd h HR0.out, fun _ => rfl, HQ7.out, HO7.out⟩
    exact results_row_tmp (p := 8) (q := 9) rfl _ _ (w.heap.size + 1 + 1) _ rfl (ino_var HZ7.out)
end Go.Proofs.YtdddennhdbmolaaGreat
