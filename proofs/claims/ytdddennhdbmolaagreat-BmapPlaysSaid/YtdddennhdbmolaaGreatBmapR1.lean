/- Layer 9 (bmap), the document's answers: what is asked of all; what an indirect block tells. -/
import Derived.Test.YtdddennhdbmolaaGreatM18
import Derived.Test.YtdddennhdbmolaaGreatBmap15
namespace Go.Proofs.YtdddennhdbmolaaGreat
open Go.RowKit Go.Maps Go.Lib
set_option linter.unusedVariables false
set_option linter.unusedSimpArgs false
set_option maxRecDepth 10000
theorem refHas_any (G : Gm) (hG : G.ok) (n : Nat) (hn : n < 65536) (w : World) : Calls Tryz.prog 88 #[gv G, w16 n] w fun e w' => e = .returned (.bool (decide (n ≤ G.b))) ∧ Below w.heap.size w w' := by
  have hw : wrap64 (n : Int) = (n : Int) := IntWalk.wrap64_in _ (by omega)
  go_enter Tryz.func88, Tryz.ntmps88
  go_wp2_with fail
  go_ret
  exact ⟨rfl, (Below.refl _ _).alloc (Nat.le_refl _) _⟩
/-- The boxes of the document's May. -/
structure MayBox (W : World) (n : Nat) (G : Gm) (x : Im) : Prop where
  geo : GeoAt W n G.i G.b G.j
  ino : InoAt W (n + 1) x
  arr : W.heap[n + 1 + 1]? = some (.cells #[w16 x.d0, w16 x.d1, w16 x.d2, w16 x.d3] 26 (0, 0))
theorem MayBox.below {W W' : World} {n : Nat} {G : Gm} {x : Im} (h : MayBox W n G x) (hb : Below W.heap.size W W') : MayBox W' n G x :=
  ⟨h.geo.below hb, h.ino.below hb h.ino.lt, (hb.block _ (Array.getElem?_eq_some_iff.1 h.arr).1).trans h.arr⟩
theorem MayBox.cells {W : World} {n : Nat} {G : Gm} {x : Im} (h : MayBox W n G x) : W.cell? ⟨n, 0, none⟩ = some (.int .i64 G.i) ∧ W.cell? ⟨n, 1, none⟩ = some (.int .i64 G.b) ∧ W.cell? ⟨n, 2, none⟩ = some (.int .i64 G.j) ∧
    W.cell? ⟨n + 1 + 1, 0, none⟩ = some (w16 x.d0) ∧ W.cell? ⟨n + 1 + 1, 1, none⟩ = some (w16 x.d1) ∧ W.cell? ⟨n + 1 + 1, 2, none⟩ = some (w16 x.d2) ∧ W.cell? ⟨n + 1 + 1, 3, none⟩ = some (w16 x.d3) ∧ W.cell? ⟨n + 1, 7, none⟩ = some (w16 x.i) :=
  ⟨cell_of_row W _ 0 _ _ _ h.geo, cell_of_row W _ 1 _ _ _ h.geo, cell_of_row W _ 2 _ _ _ h.geo, cell_of_row W _ 0 _ _ _ h.arr, cell_of_row W _ 1 _ _ _ h.arr, cell_of_row W _ 2 _ _ _ h.arr, cell_of_row W _ 3 _ _ _ h.arr, cell_of_row W _ 7 _ _ _ h.ino⟩
theorem mayBox_new (w : World) (G : Gm) (x : Im) : MayBox (((w.alloc (.cells #[.int .i64 G.i, .int .i64 G.b, .int .i64 G.j] 23)).alloc (.cells #[.int .u8 x.k, w16 x.n, .int .u32 x.z, w16 x.d0, w16 x.d1, w16 x.d2, w16 x.d3, w16 x.i] 28)).alloc (.cells #[w16 x.d0, w16 x.d1, w16 x.d2, w16 x.d3] 26)) w.heap.size G x ∧ Below w.heap.size w (((w.alloc (.cells #[.int .i64 G.i, .int .i64 G.b, .int .i64 G.j] 23)).alloc (.cells #[.int .u8 x.k, w16 x.n, .int .u32 x.z, w16 x.d0, w16 x.d1, w16 x.d2, w16 x.d3, w16 x.i] 28)).alloc (.cells #[w16 x.d0, w16 x.d1, w16 x.d2, w16 x.d3] 26)) := by
  obtain ⟨h1, h2, h3⟩ := box_gi w G.i G.b G.j x
  have hs : ((w.alloc (.cells #[.int .i64 G.i, .int .i64 G.b, .int .i64 G.j] 23)).alloc (.cells #[.int .u8 x.k, w16 x.n, .int .u32 x.z, w16 x.d0, w16 x.d1, w16 x.d2, w16 x.d3, w16 x.i] 28)).heap.size = w.heap.size + 1 + 1 := by simp
  have h4 := heap_alloc_new ((w.alloc (.cells #[.int .i64 G.i, .int .i64 G.b, .int .i64 G.j] 23)).alloc (.cells #[.int .u8 x.k, w16 x.n, .int .u32 x.z, w16 x.d0, w16 x.d1, w16 x.d2, w16 x.d3, w16 x.i] 28)) (.cells #[w16 x.d0, w16 x.d1, w16 x.d2, w16 x.d3] 26)
  generalize ((w.alloc (.cells #[.int .i64 G.i, .int .i64 G.b, .int .i64 G.j] 23)).alloc (.cells #[.int .u8 x.k, w16 x.n, .int .u32 x.z, w16 x.d0, w16 x.d1, w16 x.d2, w16 x.d3, w16 x.i] 28)) = V at *
  have hb : Below V.heap.size V (V.alloc (.cells #[w16 x.d0, w16 x.d1, w16 x.d2, w16 x.d3] 26)) := (Below.refl _ _).alloc (Nat.le_refl _) _
  exact ⟨⟨h1.below hb, h2.below hb (by omega), by rw [hs] at h4; exact h4⟩, h3.trans (hb.mono h3.size)⟩
set_option maxHeartbeats 4000000 in
theorem refMay9_any (G : Gm) (hG : G.ok) (x : Im) (hxf : x.fits) (c : Nat) (hc : c < 65536) (w : World) : Calls Tryz.prog 58 #[gv G, x.v, w16 c] w fun e w' => e = .returned (.bool (decide (fitB G x c))) ∧ Below w.heap.size w w' := by
  obtain ⟨q, hq⟩ : ∃ q, q = decide (fitB G x c) := ⟨_, rfl⟩
  rw [← hq]
  obtain ⟨-, -, -, f0, f1, f2, f3, f4⟩ := hxf
  have HM := Lib.hid fun V => refMay_ok G.i G.b G.j V (gm_mayI hG)
  have HC := Lib.hid fun V => refHas_any G hG c hc V
  have H0 := Lib.hid fun V => refHas_any G hG x.d0 f0 V
  have H1 := Lib.hid fun V => refHas_any G hG x.d1 f1 V
  have H2 := Lib.hid fun V => refHas_any G hG x.d2 f2 V
  have H3 := Lib.hid fun V => refHas_any G hG x.d3 f3 V
  have H4 := Lib.hid fun V => refHas_any G hG x.i f4 V
  have hqq : q = (decide (c ≤ G.b) && decide (x.d0 ≤ G.b) && decide (x.d1 ≤ G.b) && decide (x.d2 ≤ G.b) && decide (x.d3 ≤ G.b) && decide (x.i ≤ G.b)) := by
    rw [hq, Bool.eq_iff_iff]
    simp only [fitB, Bool.and_eq_true, decide_eq_true_iff, and_assoc]
    exact decide_eq_true_iff
  have HQ := Lib.hid hqq
  clear hq hqq hc f0 f1 f2 f3 f4
  generalize decide (c ≤ G.b) = bc at *
  generalize decide (x.d0 ≤ G.b) = b0 at *
  generalize decide (x.d1 ≤ G.b) = b1 at *
  generalize decide (x.d2 ≤ G.b) = b2 at *
  generalize decide (x.d3 ≤ G.b) = b3 at *
  generalize decide (x.i ≤ G.b) = b4 at *
  obtain ⟨hmb, hb0⟩ := mayBox_new w G x
  have HMay0 := Lib.hid hmb
  have HB0 := Lib.hid hb0
  clear hmb hb0
  go_enter Tryz.func58, Tryz.ntmps58
  go_wp2_with fail
  generalize hW : (((w.alloc (.cells #[.int .i64 G.i, .int .i64 G.b, .int .i64 G.j] 23)).alloc (.cells #[.int .u8 x.k, w16 x.n, .int .u32 x.z, w16 x.d0, w16 x.d1, w16 x.d2, w16 x.d3, w16 x.i] 28)).alloc (.cells #[w16 x.d0, w16 x.d1, w16 x.d2, w16 x.d3] 26)) = w0 at *
  clear hW
  refine (HM.out _).mono ?_
  rintro e w1 ⟨rfl, hb⟩
  have HB1 := Lib.hid (HB0.out.trans (hb.mono HB0.out.size))
  have HMay1 := Lib.hid (HMay0.out.below hb)
  obtain ⟨g0, g1, g2, a0, a1, a2, a3, x7⟩ := HMay1.out.cells
  clear hb
  go_wp2_with fail
  refine (HC.out _).mono ?_
  rintro e w2 ⟨rfl, hb⟩
  have HB2 := Lib.hid (HB1.out.trans (hb.mono HB1.out.size))
  have HMay2 := Lib.hid (HMay1.out.below hb)
  obtain ⟨g0, g1, g2, a0, a1, a2, a3, x7⟩ := HMay2.out.cells
  clear hb
  cases bc
  · go_wp2_with fail
    go_ret
    exact ⟨by rw [HQ.out]; rfl, HB2.out⟩
  · go_wp2_with fail
    refine (H0.out _).mono ?_
    rintro e w3 ⟨rfl, hb⟩
    have HB3 := Lib.hid (HB2.out.trans (hb.mono HB2.out.size))
    have HMay3 := Lib.hid (HMay2.out.below hb)
    obtain ⟨g0, g1, g2, a0, a1, a2, a3, x7⟩ := HMay3.out.cells
    clear hb
    cases b0
    · go_wp2_with fail
      go_ret
      exact ⟨by rw [HQ.out]; rfl, HB3.out⟩
    · go_wp2_with fail
      refine (H1.out _).mono ?_
      rintro e w4 ⟨rfl, hb⟩
      have HB4 := Lib.hid (HB3.out.trans (hb.mono HB3.out.size))
      have HMay4 := Lib.hid (HMay3.out.below hb)
      obtain ⟨g0, g1, g2, a0, a1, a2, a3, x7⟩ := HMay4.out.cells
      clear hb
      cases b1
      · go_wp2_with fail
        go_ret
        exact ⟨by rw [HQ.out]; rfl, HB4.out⟩
      · go_wp2_with fail
        refine (H2.out _).mono ?_
        rintro e w5 ⟨rfl, hb⟩
        have HB5 := Lib.hid (HB4.out.trans (hb.mono HB4.out.size))
        have HMay5 := Lib.hid (HMay4.out.below hb)
        obtain ⟨g0, g1, g2, a0, a1, a2, a3, x7⟩ := HMay5.out.cells
        clear hb
        cases b2
        · go_wp2_with fail
          go_ret
          exact ⟨by rw [HQ.out]; rfl, HB5.out⟩
        · go_wp2_with fail
          refine (H3.out _).mono ?_
          rintro e w6 ⟨rfl, hb⟩
          have HB6 := Lib.hid (HB5.out.trans (hb.mono HB5.out.size))
          have HMay6 := Lib.hid (HMay5.out.below hb)
          obtain ⟨g0, g1, g2, a0, a1, a2, a3, x7⟩ := HMay6.out.cells
          clear hb
          cases b3
          · go_wp2_with fail
            go_ret
            exact ⟨by rw [HQ.out]; rfl, HB6.out⟩
          · go_wp2_with fail
            refine (H4.out _).mono ?_
            rintro e w7 ⟨rfl, hb⟩
            have HB7 := Lib.hid (HB6.out.trans (hb.mono HB6.out.size))
            have HMay7 := Lib.hid (HMay6.out.below hb)
            obtain ⟨g0, g1, g2, a0, a1, a2, a3, x7⟩ := HMay7.out.cells
            clear hb
            go_wp2_with fail
            go_ret
            exact ⟨by rw [HQ.out]; rfl, HB7.out⟩
/-! May ends. -/
end Go.Proofs.YtdddennhdbmolaaGreat
