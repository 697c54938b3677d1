/- Layer 9 (bmap): Begin. Written by tools/genbmap13.py. -/
import Derived.Test.YtdddennhdbmolaaGreatBmap12
namespace Go.Proofs.YtdddennhdbmolaaGreat
open Go.RowKit Go.Maps Go.Lib
set_option linter.unusedVariables false
set_option linter.unusedSimpArgs false
set_option maxRecDepth 10000
attribute [local go_sem ↓] ino_store_fold
set_option maxHeartbeats 2000000 in
theorem begin_no (t : Option Addr) (i b j : Int) (x : Im) (c : Nat) (r : Int) (hr : r ≠ 0) (w : World) (hN : ∀ V g, V.heap[g]? = some (.cells #[w16 c] 24 (0, 0)) → Calls Tryz.prog 25 #[.pointer t, geoV i b j, x.v, .bool (decide (c ≠ 0 ∧ x.i = 0)), .slice (some ⟨g, 0, none⟩) 1 1] V fun e w' => e = .returned (.int .i64 r) ∧ Below V.heap.size V w') :
    Calls Tryz.prog 11 #[.pointer t, geoV i b j, x.v, w16 c] w fun e w' => e = .returned (.tuple #[Im.nought.v, .int .i64 r]) ∧ Below w.heap.size w w' := by
  obtain ⟨hG, hX, hZ, hB⟩ := box_giz w i b j x
  have hs0 : (((w.alloc (.cells #[.int .i64 i, .int .i64 b, .int .i64 j] 23)).alloc (.cells #[.int .u8 x.k, w16 x.n, .int .u32 x.z, w16 x.d0, w16 x.d1, w16 x.d2, w16 x.d3, w16 x.i] 28)).alloc (.cells #[.int .u8 0, .int .u16 0, .int .u32 0, .int .u16 0, .int .u16 0, .int .u16 0, .int .u16 0, .int .u16 0] 28)).heap.size = w.heap.size + 1 + 1 + 1 := by simp
  generalize hW : (((w.alloc (.cells #[.int .i64 i, .int .i64 b, .int .i64 j] 23)).alloc (.cells #[.int .u8 x.k, w16 x.n, .int .u32 x.z, w16 x.d0, w16 x.d1, w16 x.d2, w16 x.d3, w16 x.i] 28)).alloc (.cells #[.int .u8 0, .int .u16 0, .int .u32 0, .int .u16 0, .int .u16 0, .int .u16 0, .int .u16 0, .int .u16 0] 28)) = W0 at *
  obtain ⟨g0, g1, g2, x0, x1, x2, x3, x4, x5, x6, x7⟩ := Boxes.of hG hX
  have HG := Lib.hid hG
  have HX := Lib.hid hX
  have HZ := Lib.hid hZ
  have HB := Lib.hid hB
  have hcc : (W0.alloc (.cells #[w16 c] 24)).heap[W0.heap.size]? = some (.cells #[w16 c] 24 (0, 0)) := heap_alloc_new W0 _
  have hNN := fun V (hV : Below (W0.alloc (.cells #[w16 c] 24)).heap.size (W0.alloc (.cells #[w16 c] 24)) V) => hN V W0.heap.size ((hV.block _ (by simp)).trans hcc)
  rw [hs0] at hNN
  have hbc : Below W0.heap.size W0 (W0.alloc (.cells #[w16 c] 24)) := (Below.refl _ _).alloc (Nat.le_refl _) _
  have HBC := Lib.hid hbc
  have HW := Lib.hid hW
  clear hW hG hX hZ hB hN hcc hbc hs0
  have hne : (r != 0) = true := by simpa using hr
  clear hr
  by_cases hc : c = 0
  · rw [decide_eq_false (by omega)] at hNN
    have HN := Lib.hid hNN
    have hcb : ((c : Int) != 0) = false := by rw [hc]; rfl
    clear hNN hc
    go_enter Tryz.func11, Tryz.ntmps11
    go_wp2_with fail
    rw [HW.out]
    clear HW
    refine (HN.out _ (Below.refl _ _)).mono ?_
    rintro e w1 ⟨rfl, hb⟩
    have HB1 := Lib.hid (HBC.out.trans (hb.mono HBC.out.size))
    have HG1 := Lib.hid (HG.out.below HB1.out)
    have HX1 := Lib.hid (HX.out.below HB1.out HX.out.lt)
    obtain ⟨g0, g1, g2, x0, x1, x2, x3, x4, x5, x6, x7⟩ := Boxes.of HG1.out HX1.out
    have HZ1 := Lib.hid (HZ.out.below HB1.out HZ.out.lt)
    clear hb
    obtain ⟨w2, hs, hz, -, hb2⟩ := ino_store HZ1.out Im.nought
    have hs2 : (inoStore (.pointer (some ⟨w.heap.size + 1 + 1, 0, none⟩)) (.agg #[.int .u8 0, .int .u16 0, .int .u32 0, .int .u16 0, .int .u16 0, .int .u16 0, .int .u16 0, .int .u16 0])).run Tryz.prog w1 = .ok () w2 := hs
    have HZ2 := Lib.hid hz
    have HB2 := Lib.hid ((HB.out.trans (HB1.out.mono HB.out.size)).trans (hb2 _ (by omega)))
    clear hs hz hb2
    go_wp2_with fail
    refine bodyPost_ret (v := .tuple #[Im.nought.v, .int .i64 r]) ?_ rfl ⟨rfl, HB2.out⟩
    exact results_row_tmp (p := 8) (q := 9) rfl _ _ (w.heap.size + 1 + 1) _ rfl (ino_var HZ2.out)
  · have hcb : ((c : Int) != 0) = true := by simp; omega
    by_cases hi : x.i = 0
    · rw [decide_eq_true ⟨hc, hi⟩] at hNN
      have HN := Lib.hid hNN
      have hib : ((x.i : Int) == 0) = true := by rw [hi]; rfl
      clear hNN hc hi
      go_enter Tryz.func11, Tryz.ntmps11
      go_wp2_with fail
      rw [HW.out]
      clear HW
      refine (HN.out _ (Below.refl _ _)).mono ?_
      rintro e w1 ⟨rfl, hb⟩
      have HB1 := Lib.hid (HBC.out.trans (hb.mono HBC.out.size))
      have HG1 := Lib.hid (HG.out.below HB1.out)
      have HX1 := Lib.hid (HX.out.below HB1.out HX.out.lt)
      obtain ⟨g0, g1, g2, x0, x1, x2, x3, x4, x5, x6, x7⟩ := Boxes.of HG1.out HX1.out
      have HZ1 := Lib.hid (HZ.out.below HB1.out HZ.out.lt)
      clear hb
      obtain ⟨w2, hs, hz, -, hb2⟩ := ino_store HZ1.out Im.nought
      have hs2 : (inoStore (.pointer (some ⟨w.heap.size + 1 + 1, 0, none⟩)) (.agg #[.int .u8 0, .int .u16 0, .int .u32 0, .int .u16 0, .int .u16 0, .int .u16 0, .int .u16 0, .int .u16 0])).run Tryz.prog w1 = .ok () w2 := hs
      have HZ2 := Lib.hid hz
      have HB2 := Lib.hid ((HB.out.trans (HB1.out.mono HB.out.size)).trans (hb2 _ (by omega)))
      clear hs hz hb2
      go_wp2_with fail
      refine bodyPost_ret (v := .tuple #[Im.nought.v, .int .i64 r]) ?_ rfl ⟨rfl, HB2.out⟩
      exact results_row_tmp (p := 8) (q := 9) rfl _ _ (w.heap.size + 1 + 1) _ rfl (ino_var HZ2.out)
    · rw [decide_eq_false (by omega)] at hNN
      have HN := Lib.hid hNN
      have hib : ((x.i : Int) == 0) = false := by simp; omega
      clear hNN hc hi
      go_enter Tryz.func11, Tryz.ntmps11
      go_wp2_with fail
      rw [HW.out]
      clear HW
      refine (HN.out _ (Below.refl _ _)).mono ?_
      rintro e w1 ⟨rfl, hb⟩
      have HB1 := Lib.hid (HBC.out.trans (hb.mono HBC.out.size))
      have HG1 := Lib.hid (HG.out.below HB1.out)
      have HX1 := Lib.hid (HX.out.below HB1.out HX.out.lt)
      obtain ⟨g0, g1, g2, x0, x1, x2, x3, x4, x5, x6, x7⟩ := Boxes.of HG1.out HX1.out
      have HZ1 := Lib.hid (HZ.out.below HB1.out HZ.out.lt)
      clear hb
      obtain ⟨w2, hs, hz, -, hb2⟩ := ino_store HZ1.out Im.nought
      have hs2 : (inoStore (.pointer (some ⟨w.heap.size + 1 + 1, 0, none⟩)) (.agg #[.int .u8 0, .int .u16 0, .int .u32 0, .int .u16 0, .int .u16 0, .int .u16 0, .int .u16 0, .int .u16 0])).run Tryz.prog w1 = .ok () w2 := hs
      have HZ2 := Lib.hid hz
      have HB2 := Lib.hid ((HB.out.trans (HB1.out.mono HB.out.size)).trans (hb2 _ (by omega)))
      clear hs hz hb2
      go_wp2_with fail
      refine bodyPost_ret (v := .tuple #[Im.nought.v, .int .i64 r]) ?_ rfl ⟨rfl, HB2.out⟩
      exact results_row_tmp (p := 8) (q := 9) rfl _ _ (w.heap.size + 1 + 1) _ rfl (ino_var HZ2.out)
theorem setInd_cells {W : World} {h : Nat} {x : Im} (hx : InoAt W h x) (c : Nat) : InoAt (W.setCell ⟨h, 7, none⟩ (w16 c)) h { x with i := c } := by
  unfold InoAt at hx ⊢
  rw [heap_setCell_same W h 7 _ _ _ hx]
  rfl
set_option maxHeartbeats 4000000 in
theorem begin_ok (t : Option Addr) (i b j : Int) (x : Im) (c : Nat) (hc : c ≠ 0) (hi : x.i = 0) (r : Int) (w : World) (m0 : Nat) (hm : m0 < w.heap.size) (Q : World → Prop) (hQ : ∀ V V', Q V → (∀ k, k < w.heap.size → V'.heap[k]? = V.heap[k]?) → Q V')
    (hN : ∀ V g, V.heap[g]? = some (.cells #[w16 c] 24 (0, 0)) → Calls Tryz.prog 25 #[.pointer t, geoV i b j, x.v, .bool (decide (c ≠ 0 ∧ x.i = 0)), .slice (some ⟨g, 0, none⟩) 1 1] V fun e w' => e = .returned (.int .i64 0) ∧ Below V.heap.size V w')
    (hWr : ∀ V, Below w.heap.size w V → Calls Tryz.prog 28 #[.pointer t, geoV i b j, w16 c, lisV (List.replicate 32 0)] V fun e w' => e = .returned (.int .i64 r) ∧ Q w' ∧ Only (fun k => k = m0) V w') :
    Calls Tryz.prog 11 #[.pointer t, geoV i b j, x.v, w16 c] w fun e w' => ∃ y : Im, e = .returned (.tuple #[y.v, .int .i64 r]) ∧ (r = 0 → y = { x with i := c }) ∧ (r ≠ 0 → y = Im.nought) ∧ Q w' ∧ Only (fun k => k = m0) w w' := by
  obtain ⟨hG, hX, hZ, hB⟩ := box_giz w i b j x
  have hs0 : (((w.alloc (.cells #[.int .i64 i, .int .i64 b, .int .i64 j] 23)).alloc (.cells #[.int .u8 x.k, w16 x.n, .int .u32 x.z, w16 x.d0, w16 x.d1, w16 x.d2, w16 x.d3, w16 x.i] 28)).alloc (.cells #[.int .u8 0, .int .u16 0, .int .u32 0, .int .u16 0, .int .u16 0, .int .u16 0, .int .u16 0, .int .u16 0] 28)).heap.size = w.heap.size + 1 + 1 + 1 := by simp
  generalize hW : (((w.alloc (.cells #[.int .i64 i, .int .i64 b, .int .i64 j] 23)).alloc (.cells #[.int .u8 x.k, w16 x.n, .int .u32 x.z, w16 x.d0, w16 x.d1, w16 x.d2, w16 x.d3, w16 x.i] 28)).alloc (.cells #[.int .u8 0, .int .u16 0, .int .u32 0, .int .u16 0, .int .u16 0, .int .u16 0, .int .u16 0, .int .u16 0] 28)) = W0 at *
  obtain ⟨g0, g1, g2, x0, x1, x2, x3, x4, x5, x6, x7⟩ := Boxes.of hG hX
  have HG := Lib.hid hG
  have HX := Lib.hid hX
  have HZ := Lib.hid hZ
  have HB := Lib.hid hB
  have hcc : (W0.alloc (.cells #[w16 c] 24)).heap[W0.heap.size]? = some (.cells #[w16 c] 24 (0, 0)) := heap_alloc_new W0 _
  have hNN := fun V (hV : Below (W0.alloc (.cells #[w16 c] 24)).heap.size (W0.alloc (.cells #[w16 c] 24)) V) => hN V W0.heap.size ((hV.block _ (by simp)).trans hcc)
  rw [hs0] at hNN
  have hbc : Below W0.heap.size W0 (W0.alloc (.cells #[w16 c] 24)) := (Below.refl _ _).alloc (Nat.le_refl _) _
  have HBC := Lib.hid hbc
  have HW := Lib.hid hW
  clear hW hG hX hZ hB hN hcc hbc hs0
  have hcb : ((c : Int) != 0) = true := by simp; omega
  rw [decide_eq_true ⟨hc, hi⟩] at hNN
  have HN := Lib.hid hNN
  have hib : ((x.i : Int) == 0) = true := by rw [hi]; rfl
  obtain ⟨hz, -⟩ := zero_of_info lisInfo2
  have HWr := Lib.hid hWr
  have HQ := Lib.hid hQ
  generalize List.replicate 32 0 = Z at *
  clear hNN hc hi hWr hQ
  go_enter Tryz.func11, Tryz.ntmps11
  go_wp2_with fail
  rw [HW.out]
  clear HW
  refine (HN.out _ (Below.refl _ _)).mono ?_
  rintro e w1 ⟨rfl, hb⟩
  have HB1 := Lib.hid (HBC.out.trans (hb.mono HBC.out.size))
  have HG1 := Lib.hid (HG.out.below HB1.out)
  have HX1 := Lib.hid (HX.out.below HB1.out HX.out.lt)
  obtain ⟨g0, g1, g2, x0, x1, x2, x3, x4, x5, x6, x7⟩ := Boxes.of HG1.out HX1.out
  have HZ1 := Lib.hid (HZ.out.below HB1.out HZ.out.lt)
  clear hb
  go_wp2_with fail
  have HB5 := Lib.hid (HB.out.trans (HB1.out.mono HB.out.size))
  refine (HWr.out _ HB5.out).mono ?_
  rintro e w6 ⟨rfl, hq6, ho6⟩
  have hX6 : InoAt w6 (w.heap.size + 1) x := (ho6.block _ HX1.out.lt (by omega)).trans HX1.out
  have hZ6 : InoAt w6 (w.heap.size + 1 + 1) Im.nought := (ho6.block _ HZ1.out.lt (by omega)).trans HZ1.out
  have ho0 : Only (fun k => k = m0) w w6 := (Only.of_below (S := fun k => k = m0) HB5.out).trans ho6 fun k hk => .inl hk
  have HX6 := Lib.hid hX6
  have HO := Lib.hid ho0
  have HQ6 := Lib.hid hq6
  have HZ6 := Lib.hid hZ6
  clear ho0 ho6 hq6
  by_cases hr : r = 0
  · have hX7 := setInd_cells hX6 c
    have hZ7 : InoAt (w6.setCell ⟨w.heap.size + 1, 7, none⟩ (w16 c)) (w.heap.size + 1 + 1) Im.nought := (heap_setCell_other _ _ _ _ (by simp)).trans hZ6
    have h7 := (Boxes.cells hX6).2.2.2.2.2.2.2
    have hfr : w6.frozen? ⟨w.heap.size + 1, 7, none⟩ = false := frozen_of_row w6 _ _ _ _ hX6
    obtain ⟨x0, x1, x2, x3, x4, x5, x6, x7⟩ := Boxes.cells hX7
    obtain ⟨w7, hs, hz7, ho7, hb7⟩ := ino_store hZ7 { x with i := c }
    have HZ7 := Lib.hid hz7
    have hsame : ∀ k, k ≠ w.heap.size + 1 → k ≠ w.heap.size + 1 + 1 → w7.heap[k]? = w6.heap[k]? := fun k h1 h2 => (ho7 k h2).trans (heap_setCell_other _ _ _ _ (by simpa using h1))
    have hsz7 := (hb7 0 (Nat.zero_le _)).size
    have HQ7 := Lib.hid (HQ.out w6 w7 HQ6.out fun k hk => hsame k (by omega) (by omega))
    have HO7 := Lib.hid (HO.out.trans ⟨(hb7 0 (Nat.zero_le _)).os, (hb7 0 (Nat.zero_le _)).tape, (hb7 0 (Nat.zero_le _)).output, by simpa [World.setCell] using hsz7, fun k _ hn => hsame k (fun e => hn (.inl e)) (fun e => hn (.inr e))⟩ (S' := fun k => k = w.heap.size + 1 ∨ k = w.heap.size + 1 + 1) fun k hk => .inr (by omega))
    have HR0 := Lib.hid hr
    have hne : (r != 0) = false := by simpa using hr
    clear hz7 ho7 hb7 hr hX6 hZ6 hX7 hZ7 hsame hsz7
    go_wp2_with fail
    refine bodyPost_ret (v := .tuple #[({ x with i := c } : Im).v, .int .i64 r]) ?_ rfl ⟨_, rfl, fun _ => rfl, fun h => absurd HR0.out h, HQ7.out, HO7.out⟩
    rw [HR0.out]
    exact results_row_tmp (p := 8) (q := 9) rfl _ _ (w.heap.size + 1 + 1) _ rfl (ino_var HZ7.out)
  · obtain ⟨w7, hs, hz7, ho7, hb7⟩ := ino_store HZ6.out Im.nought
    have hs7 : (inoStore (.pointer (some ⟨w.heap.size + 1 + 1, 0, none⟩)) (.agg #[.int .u8 0, .int .u16 0, .int .u32 0, .int .u16 0, .int .u16 0, .int .u16 0, .int .u16 0, .int .u16 0])).run Tryz.prog w6 = .ok () w7 := hs
    have HZ7 := Lib.hid hz7
    have HQ7 := Lib.hid (HQ.out w6 w7 HQ6.out fun k hk => ho7 k (by omega))
    have HO7 := Lib.hid (HO.out.trans ⟨(hb7 0 (Nat.zero_le _)).os, (hb7 0 (Nat.zero_le _)).tape, (hb7 0 (Nat.zero_le _)).output, (hb7 0 (Nat.zero_le _)).size, fun k _ hn => ho7 k hn⟩ (S' := fun k => k = w.heap.size + 1 + 1) fun k hk => .inr (by omega))
    have HR0 := Lib.hid hr
    have hne : (r != 0) = true := by simpa using hr
    clear hz7 ho7 hb7 hr hs hX6 hZ6
    go_wp2_with fail
    refine bodyPost_ret (v := .tuple #[Im.nought.v, .int .i64 r]) ?_ rfl ⟨Im.nought, rfl, fun h => absurd h HR0.out, fun _ => rfl, HQ7.out, HO7.out⟩
    exact results_row_tmp (p := 8) (q := 9) rfl _ _ (w.heap.size + 1 + 1) _ rfl (ino_var HZ7.out)
end Go.Proofs.YtdddennhdbmolaaGreat
