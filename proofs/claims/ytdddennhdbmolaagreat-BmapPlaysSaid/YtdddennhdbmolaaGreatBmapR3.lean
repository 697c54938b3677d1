/- Layer 9 (bmap), the document's answers: Get, Set, Begin. Written by tools/genbmapr3.py. -/
import Derived.Test.YtdddennhdbmolaaGreatBmapR2
namespace Go.Proofs.YtdddennhdbmolaaGreat
open Go.RowKit Go.Maps Go.Lib
set_option linter.unusedVariables false
set_option linter.unusedSimpArgs false
set_option maxRecDepth 10000
attribute [local go_sem ↓] ino_store_fold
set_option maxHeartbeats 2000000 in
theorem rget_no (r : Value) (G : Gm) (hG : G.ok) (x : Im) (hxf : x.fits) (p : Int) (hbad : ¬ (fitB G x 0 ∧ pageP p)) (w : World) :
    Calls Tryz.prog 35 #[r, gv G, x.v, .int .i64 p] w fun e w' => e = .returned (.tuple #[.int .u16 0, .int .i64 2]) ∧ Below w.heap.size w w' := by
  obtain ⟨hGe, hX, hB⟩ := box_gi w G.i G.b G.j x
  generalize hW : ((w.alloc (.cells #[.int .i64 G.i, .int .i64 G.b, .int .i64 G.j] 23)).alloc (.cells #[.int .u8 x.k, w16 x.n, .int .u32 x.z, w16 x.d0, w16 x.d1, w16 x.d2, w16 x.d3, w16 x.i] 28)) = W0 at *
  obtain ⟨g0, g1, g2, x0, x1, x2, x3, x4, x5, x6, x7⟩ := Boxes.of hGe hX
  have HG := Lib.hid hGe
  have HX := Lib.hid hX
  have HB := Lib.hid hB
  have HW := Lib.hid hW
  clear hW hGe hX hB
  by_cases hf : fitB G x 0
  · have hM := fun V => refMay9_any G hG x hxf 0 (by first | omega | assumption) V
    rw [decide_eq_true hf] at hM
    have HM := Lib.hid (show ∀ V, Calls Tryz.prog 58 #[gv G, x.v, .int .u16 0] V fun e w' => e = .returned (.bool true) ∧ Below V.heap.size V w' from hM)
    clear hM
    by_cases h0 : p < 0
    · have hd0 : decide (p < 0) = true := decide_eq_true h0
      clear hbad h0 hf hG hxf
      go_enter Tryz.func35, Tryz.ntmps35
      go_wp2_with fail
      rw [HW.out]
      clear HW
      refine (HM.out _).mono ?_
      rintro e w1 ⟨rfl, hb⟩
      have HB1 := Lib.hid hb
      have HG1 := Lib.hid (HG.out.below HB1.out)
      have HX1 := Lib.hid (HX.out.below HB1.out HX.out.lt)
      obtain ⟨g0, g1, g2, x0, x1, x2, x3, x4, x5, x6, x7⟩ := Boxes.of HG1.out HX1.out
      clear hb
      go_wp2_with fail
      go_ret2
      exact ⟨rfl, HB.out.trans (HB1.out.mono HB.out.size)⟩
    · have hd0 : decide (p < 0) = false := decide_eq_false h0
      have h36 : 36 ≤ p := by
        have h2 : ¬ pageP p := fun e => hbad ⟨hf, e⟩
        unfold pageP at h2
        omega
      have hd1 : decide (36 ≤ p) = true := decide_eq_true h36
      clear hbad h0 hf hG hxf
      go_enter Tryz.func35, Tryz.ntmps35
      go_wp2_with fail
      rw [HW.out]
      clear HW
      refine (HM.out _).mono ?_
      rintro e w1 ⟨rfl, hb⟩
      have HB1 := Lib.hid hb
      have HG1 := Lib.hid (HG.out.below HB1.out)
      have HX1 := Lib.hid (HX.out.below HB1.out HX.out.lt)
      obtain ⟨g0, g1, g2, x0, x1, x2, x3, x4, x5, x6, x7⟩ := Boxes.of HG1.out HX1.out
      clear hb
      go_wp2_with fail
      go_ret2
      exact ⟨rfl, HB.out.trans (HB1.out.mono HB.out.size)⟩
  · have hM := fun V => refMay9_any G hG x hxf 0 (by first | omega | assumption) V
    rw [decide_eq_false hf] at hM
    have HM := Lib.hid (show ∀ V, Calls Tryz.prog 58 #[gv G, x.v, .int .u16 0] V fun e w' => e = .returned (.bool false) ∧ Below V.heap.size V w' from hM)
    clear hM hbad hf hG hxf
    go_enter Tryz.func35, Tryz.ntmps35
    go_wp2_with fail
    rw [HW.out]
    clear HW
    refine (HM.out _).mono ?_
    rintro e w1 ⟨rfl, hb⟩
    have HB1 := Lib.hid hb
    have HG1 := Lib.hid (HG.out.below HB1.out)
    have HX1 := Lib.hid (HX.out.below HB1.out HX.out.lt)
    obtain ⟨g0, g1, g2, x0, x1, x2, x3, x4, x5, x6, x7⟩ := Boxes.of HG1.out HX1.out
    clear hb
    go_wp2_with fail
    go_ret2
    exact ⟨rfl, HB.out.trans (HB1.out.mono HB.out.size)⟩
set_option maxHeartbeats 2000000 in
theorem rget_dir (r : Value) (G : Gm) (hG : G.ok) (x : Im) (hxf : x.fits) (p : Nat) (hp : p < 4) (hf : fitB G x 0) (w : World) :
    Calls Tryz.prog 35 #[r, gv G, x.v, .int .i64 (p : Int)] w fun e w' => e = .returned (.tuple #[w16 (x.dir.getD p 0), .int .i64 0]) ∧ Below w.heap.size w w' := by
  obtain ⟨hGe, hX, hB⟩ := box_gi w G.i G.b G.j x
  generalize hW : ((w.alloc (.cells #[.int .i64 G.i, .int .i64 G.b, .int .i64 G.j] 23)).alloc (.cells #[.int .u8 x.k, w16 x.n, .int .u32 x.z, w16 x.d0, w16 x.d1, w16 x.d2, w16 x.d3, w16 x.i] 28)) = W0 at *
  obtain ⟨g0, g1, g2, x0, x1, x2, x3, x4, x5, x6, x7⟩ := Boxes.of hGe hX
  have HG := Lib.hid hGe
  have HX := Lib.hid hX
  have HB := Lib.hid hB
  have HW := Lib.hid hW
  clear hW hGe hX hB
  have hM := fun V => refMay9_any G hG x hxf 0 (by first | omega | assumption) V
  rw [decide_eq_true hf] at hM
  have HM := Lib.hid (show ∀ V, Calls Tryz.prog 58 #[gv G, x.v, .int .u16 0] V fun e w' => e = .returned (.bool true) ∧ Below V.heap.size V w' from hM)
  have hd0 : decide ((p : Int) < 0) = false := decide_eq_false (by omega)
  have hd1 : decide (36 ≤ (p : Int)) = false := decide_eq_false (by omega)
  have hd4 : decide ((p : Int) < 4) = true := decide_eq_true (by omega)
  have hp4 : (p : Int) < 4 := by omega
  clear hM hf hG hxf
  go_enter Tryz.func35, Tryz.ntmps35
  go_wp2_with fail
  rw [HW.out]
  clear HW
  refine (HM.out _).mono ?_
  rintro e w1 ⟨rfl, hb⟩
  have HB1 := Lib.hid hb
  have HG1 := Lib.hid (HG.out.below HB1.out)
  have HX1 := Lib.hid (HX.out.below HB1.out HX.out.lt)
  obtain ⟨g0, g1, g2, x0, x1, x2, x3, x4, x5, x6, x7⟩ := Boxes.of HG1.out HX1.out
  clear hb
  obtain ⟨n, hn⟩ : ∃ n, n = x.dir.getD p 0 := ⟨_, rfl⟩
  have hcell : (w1.alloc (.cells #[w16 x.d0, w16 x.d1, w16 x.d2, w16 x.d3] 26)).cell? ⟨w1.heap.size, p, none⟩ = some (w16 n) := by
    rw [cell_of_row _ _ p _ _ (0, 0) (heap_alloc_new w1 _), hn]
    match p, hp with
    | 0, _ => rfl
    | 1, _ => rfl
    | 2, _ => rfl
    | 3, _ => rfl
  have HN := Lib.hid hn
  clear hn hp
  go_wp2_with fail
  go_ret2
  exact ⟨by rw [← HN.out]; rfl, (HB.out.trans (HB1.out.mono HB.out.size)).alloc (Nat.le_trans HB.out.size HB1.out.size) _⟩
set_option maxHeartbeats 2000000 in
theorem rget_ind (rb : Nat) (G : Gm) (hG : G.ok) (x : Im) (hxf : x.fits) (q : Nat) (hq : q < 32) (p : Int) (hp : p = (q : Int) + 4) (hf : fitB G x 0) (l : List Nat) (hl : l.length = 32) (w : World)
    (hR : ∀ V, Below w.heap.size w V → Calls Tryz.prog 59 #[devp rb, gv G, x.v] V fun e w' => ∃ v, e = .returned (.tuple #[v, .int .i64 0]) ∧ OwnN w' V.heap.size v l ∧ Below V.heap.size V w') :
    Calls Tryz.prog 35 #[devp rb, gv G, x.v, .int .i64 p] w fun e w' => e = .returned (.tuple #[w16 (l.getD q 0), .int .i64 0]) ∧ Below w.heap.size w w' := by
  obtain ⟨hGe, hX, hB⟩ := box_gi w G.i G.b G.j x
  generalize hW : ((w.alloc (.cells #[.int .i64 G.i, .int .i64 G.b, .int .i64 G.j] 23)).alloc (.cells #[.int .u8 x.k, w16 x.n, .int .u32 x.z, w16 x.d0, w16 x.d1, w16 x.d2, w16 x.d3, w16 x.i] 28)) = W0 at *
  obtain ⟨g0, g1, g2, x0, x1, x2, x3, x4, x5, x6, x7⟩ := Boxes.of hGe hX
  have HG := Lib.hid hGe
  have HX := Lib.hid hX
  have HB := Lib.hid hB
  have HW := Lib.hid hW
  clear hW hGe hX hB
  have hM := fun V => refMay9_any G hG x hxf 0 (by first | omega | assumption) V
  rw [decide_eq_true hf] at hM
  have HM := Lib.hid (show ∀ V, Calls Tryz.prog 58 #[gv G, x.v, .int .u16 0] V fun e w' => e = .returned (.bool true) ∧ Below V.heap.size V w' from hM)
  have HR := Lib.hid hR
  have hd0 : decide (p < 0) = false := decide_eq_false (by omega)
  have hd1 : decide (36 ≤ p) = false := decide_eq_false (by omega)
  have hd4 : decide (p < 4) = false := decide_eq_false (by omega)
  have hsub : p - 4 = (q : Int) := by omega
  clear hM hf hG hxf hR hp
  go_enter Tryz.func35, Tryz.ntmps35
  go_wp2_with fail
  rw [HW.out]
  clear HW
  refine (HM.out _).mono ?_
  rintro e w1 ⟨rfl, hb⟩
  have HB1 := Lib.hid hb
  have HG1 := Lib.hid (HG.out.below HB1.out)
  have HX1 := Lib.hid (HX.out.below HB1.out HX.out.lt)
  obtain ⟨g0, g1, g2, x0, x1, x2, x3, x4, x5, x6, x7⟩ := Boxes.of HG1.out HX1.out
  clear hb
  have HW2 := Lib.hid ((HB.out.trans (HB1.out.mono HB.out.size)).alloc (Nat.le_trans HB.out.size HB1.out.size) (.cells #[w16 x.d0, w16 x.d1, w16 x.d2, w16 x.d3] 26))
  have hba : Below w1.heap.size w1 (w1.alloc (.cells #[w16 x.d0, w16 x.d1, w16 x.d2, w16 x.d3] 26)) := (Below.refl _ _).alloc (Nat.le_refl _) _
  obtain ⟨g0, g1, g2, x0, x1, x2, x3, x4, x5, x6, x7⟩ := Boxes.of (HG1.out.below hba) (HX1.out.below hba HX1.out.lt)
  clear hba
  go_wp2_with fail
  refine (HR.out _ HW2.out).mono ?_
  rintro e w2 ⟨v, rfl, hu, hb⟩
  obtain ⟨A, c, rfl, hc⟩ := hu.u16s
  obtain ⟨n, hn⟩ : ∃ n, n = l.getD q 0 := ⟨_, rfl⟩
  obtain ⟨a, rfl, hcell⟩ := hc q n (by rw [hn, List.getD_eq_getElem?_getD, List.getElem?_eq_getElem (by omega)]; rfl)
  have HB2 := Lib.hid (HW2.out.trans (hb.mono HW2.out.size))
  have HN := Lib.hid hn
  have hq0 : (0 : Int) ≤ (q : Int) := by omega
  have hq32 : (q : Int) < (l.length : Int) := by omega
  clear hb hu hc hn
  go_wp2_with fail
  go_ret2
  exact ⟨by rw [← HN.out]; rfl, HB2.out⟩
end Go.Proofs.YtdddennhdbmolaaGreat
