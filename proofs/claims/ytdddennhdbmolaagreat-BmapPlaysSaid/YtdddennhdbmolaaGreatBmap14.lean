/- Layer 9 (bmap): Cut. Written by tools/genbmap14.py. -/
import Derived.Test.YtdddennhdbmolaaGreatBmap13
namespace Go.Proofs.YtdddennhdbmolaaGreat
open Go.RowKit Go.Maps Go.Lib
set_option linter.unusedVariables false
set_option linter.unusedSimpArgs false
set_option maxRecDepth 10000
attribute [local go_sem ↓] ino_store_fold
/-- A struct of one-cell fields, and two slots. -/
theorem results_row_tmp2 {fn : Func} {p q s : Tmp} {ty : TypeId} {P : Program} (h : fn.results = #[.cell p ty, .tmp q, .tmp s]) (tmps : Array Value) (w : World) (g : Nat) (v : Value)
    (hp : tmps.getD p undef = .pointer (some ⟨g, 0, none⟩)) (hl : (loadVar ty ⟨g, 0, none⟩).run P w = .ok v w) :
    (results fn tmps).run P w = .ok (.tuple #[v, tmps.getD q undef, tmps.getD s undef]) w := by
  have hp' : tmps[p]?.getD undef = .pointer (some ⟨g, 0, none⟩) := by simpa using hp
  simp [results, h, hp', asAddr, hl]
/-- An inode that is cut to so few pages that it needs no indirect block. -/
def Im.cut (x : Im) (p : Nat) : Im := ⟨x.k, x.n, x.z, if p ≤ 0 then 0 else x.d0, if p ≤ 1 then 0 else x.d1, if p ≤ 2 then 0 else x.d2, if p ≤ 3 then 0 else x.d3, 0⟩
theorem dir_clear {W : World} {h : Nat} {x : Im} (hx : InoAt W h x) (p : Nat) (hp : p ≤ 4) (o : Nat) (ho : p < 4 → o = 3 + p) (c : Nat) (ty : TypeId) :
    ∃ W', (Builtin.clear_ #[37] ty #[.slice (some ⟨h, o, none⟩) (4 - p) c]).run Tryz.prog W = .ok (.tuple #[]) W' ∧ InoAt W' h { x.cut p with i := x.i } ∧ (∀ k, k ≠ h → W'.heap[k]? = W.heap[k]?) ∧ ∀ m, m ≤ h → Below m W W' := by
  by_cases h4 : p = 4
  · subst h4
    exact ⟨W, clear_none 37 24 ty (w16 0) Tryz.underlying37 zero16 _ _ _, hx, fun k _ => rfl, fun m _ => Below.refl _ _⟩
  obtain rfl := ho (by omega)
  have hl : 3 + p + (4 - p) = 7 := by omega
  refine ⟨_, run_clear_slice W 37 24 ty (w16 0) Tryz.underlying37 zero16 rfl rfl h (3 + p) (4 - p) c (by omega) (fun j hj => ?_) (fun j hj => frozen_of_row W h _ _ _ hx), ?_, fun k hk => other_setCells hk _ _ _, fun m hm => below_setCells h hm _ _ _ (Below.refl _ _)⟩
  · rw [cell_of_row W h (3 + p + j) _ _ (0, 0) hx]; simp; omega
  · unfold InoAt
    rw [setCells_heap h 28 _ (3 + p) [.int .u8 x.k, w16 x.n, .int .u32 x.z, w16 x.d0, w16 x.d1, w16 x.d2, w16 x.d3, w16 x.i] W hx (by rw [List.length_replicate]; simp; omega)]
    rw [List.length_replicate, hl]
    match p, h4, hp with
    | 0, _, _ => rfl
    | 1, _, _ => rfl
    | 2, _, _ => rfl
    | 3, _, _ => rfl
    | 4, h4, _ => exact absurd rfl h4
    | p + 5, _, hp => omega
theorem slice_dir (h p : Nat) (hp : p ≤ 4) : ∃ o, (p < 4 → o = 3 + p) ∧ ∀ W, (Instr.sliceAt 26 (.pointer (some ⟨h, 3, none⟩)) (some (.int .i64 (p : Int))) none none).run Tryz.prog W = .ok (.slice (some ⟨h, o, none⟩) (4 - p) (4 - p)) W := by
  refine ⟨if 4 = p then 3 else 3 + p, fun h => by rw [if_neg (by omega)], fun W => ?_⟩
  have hn : Tryz.prog.arrayLen 26 = 4 := by kernel_rfl
  have he : Tryz.prog.elem 26 = 24 := by kernel_rfl
  have z3 := Tryz.sizeOf24
  have h := run_sliceAt_array_l (P := Tryz.prog) W 26 ⟨h, 3, none⟩ (by rw [hn, he]; exact Tryz.underlying26) .i64 (p : Int) (by omega) (by rw [hn]; omega)
  rw [h, hn, he, z3]
  simp only [Result.andThen_ok, slicedAt, Int.toNat_natCast, Nat.mul_one]
  by_cases hq2 : 4 = p
  · rw [if_pos hq2, if_pos hq2]
  · rw [if_neg hq2, if_neg hq2]
    simp [Addr.add]
theorem U16s.kept {W W' : World} {v : Value} {l : List Nat} (h : U16s W v l) (hb : ∀ k, v.ownBlock = some k → W'.heap[k]? = W.heap[k]?) : U16s W' v l := by
  obtain ⟨A, c, rfl, hc⟩ := h
  refine ⟨A, c, rfl, fun j n hj => ?_⟩
  obtain ⟨a, rfl, hcell⟩ := hc j n hj
  refine ⟨a, rfl, ?_⟩
  have e := World.cell?_of_block (a := a.add j) (w := W) (w' := W') (by rw [show (a.add j).block = a.block by unfold Addr.add; split <;> rfl]; exact hb _ rfl)
  exact e.trans hcell
theorem U16s.kept' {W W' : World} {v : Value} {l : List Nat} (h : U16s W v l) (hb : ∀ k, v.ownBlock = some k → k < W.heap.size → W'.heap[k]? = W.heap[k]?) : U16s W' v l := by
  obtain ⟨A, c, rfl, hc⟩ := h
  refine ⟨A, c, rfl, fun j n hj => ?_⟩
  obtain ⟨a, rfl, hcell⟩ := hc j n hj
  refine ⟨a, rfl, ?_⟩
  have e0 : (a.add j).block = a.block := by unfold Addr.add; split <;> rfl
  have hlt := World.block_lt_of_cell? W _ hcell
  rw [e0] at hlt
  have e := World.cell?_of_block (a := a.add j) (w := W) (w' := W') (by rw [e0]; exact hb _ rfl hlt)
  exact e.trans hcell
set_option maxHeartbeats 2000000 in
theorem cut_no (t : Option Addr) (i b j : Int) (x : Im) (p : Int) (r : Int) (hr : r ≠ 0) (w : World) (hN : ∀ V, Calls Tryz.prog 25 #[.pointer t, geoV i b j, x.v, .bool (decide (0 ≤ p ∧ p ≤ 36)), .slice none 0 0] V fun e w' => e = .returned (.int .i64 r) ∧ Below V.heap.size V w') :
    Calls Tryz.prog 13 #[.pointer t, geoV i b j, x.v, .int .i64 p] w fun e w' => e = .returned (.tuple #[Im.nought.v, .slice none 0 0, .int .i64 r]) ∧ Below w.heap.size w w' := by
  obtain ⟨hG, hX, hZ, hB⟩ := box_giz w i b j x
  generalize hW : (((w.alloc (.cells #[.int .i64 i, .int .i64 b, .int .i64 j] 23)).alloc (.cells #[.int .u8 x.k, w16 x.n, .int .u32 x.z, w16 x.d0, w16 x.d1, w16 x.d2, w16 x.d3, w16 x.i] 28)).alloc (.cells #[.int .u8 0, .int .u16 0, .int .u32 0, .int .u16 0, .int .u16 0, .int .u16 0, .int .u16 0, .int .u16 0] 28)) = W0 at *
  obtain ⟨g0, g1, g2, x0, x1, x2, x3, x4, x5, x6, x7⟩ := Boxes.of hG hX
  have HG := Lib.hid hG
  have HX := Lib.hid hX
  have HZ := Lib.hid hZ
  have HB := Lib.hid hB
  have HW := Lib.hid hW
  clear hW hG hX hZ hB
  have hne : (r != 0) = true := by simpa using hr
  clear hr
  by_cases h0 : 0 ≤ p
  · by_cases h1 : p ≤ 36
    · rw [decide_eq_true ⟨h0, h1⟩] at hN
      have hd0 : decide (0 ≤ p) = true := decide_eq_true h0
      have hd1 : decide (p ≤ 36) = true := decide_eq_true h1
      clear h0 h1
      have HN := Lib.hid hN
      clear hN
      go_enter Tryz.func13, Tryz.ntmps13
      go_wp2_with fail
      rw [HW.out]
      clear HW
      refine (HN.out _).mono ?_
      rintro e w1 ⟨rfl, hb⟩
      have HB1 := Lib.hid hb
      have HG1 := Lib.hid (HG.out.below HB1.out)
      have HX1 := Lib.hid (HX.out.below HB1.out HX.out.lt)
      obtain ⟨g0, g1, g2, x0, x1, x2, x3, x4, x5, x6, x7⟩ := Boxes.of HG1.out HX1.out
      have HZ1 := Lib.hid (HZ.out.below HB1.out HZ.out.lt)
      clear hb
      obtain ⟨w2, hs, hz, -, hb2⟩ := ino_store HZ1.out Im.nought
      have hs2 : (inoStore (.pointer (some ⟨w.heap.size + 1 + 1, 0, none⟩)) (.agg #[.int .u8 0, .int .u16 0, .int .u32 0, .int .u16 0, .int .u16 0, .int .u16 0, .int .u16 0, .int .u16 0])).run Tryz.prog w1 = .ok () w2 := hs
      have HZ2 := Lib.hid hz
      have HB2 := Lib.hid ((HB.out.trans (HB1.out.mono HB.out.size)).trans (hb2 _ (by omega)))
      clear hs hz hb2
      go_wp2_with fail
      refine bodyPost_ret (v := .tuple #[Im.nought.v, .slice none 0 0, .int .i64 r]) ?_ rfl ⟨rfl, HB2.out⟩
      exact results_row_tmp2 (p := 8) (q := 9) (s := 10) rfl _ _ (w.heap.size + 1 + 1) _ rfl (ino_var HZ2.out)
    · rw [decide_eq_false (fun h => h1 h.2)] at hN
      have hd0 : decide (0 ≤ p) = true := decide_eq_true h0
      have hd1 : decide (p ≤ 36) = false := decide_eq_false h1
      clear h0 h1
      have HN := Lib.hid hN
      clear hN
      go_enter Tryz.func13, Tryz.ntmps13
      go_wp2_with fail
      rw [HW.out]
      clear HW
      refine (HN.out _).mono ?_
      rintro e w1 ⟨rfl, hb⟩
      have HB1 := Lib.hid hb
      have HG1 := Lib.hid (HG.out.below HB1.out)
      have HX1 := Lib.hid (HX.out.below HB1.out HX.out.lt)
      obtain ⟨g0, g1, g2, x0, x1, x2, x3, x4, x5, x6, x7⟩ := Boxes.of HG1.out HX1.out
      have HZ1 := Lib.hid (HZ.out.below HB1.out HZ.out.lt)
      clear hb
      obtain ⟨w2, hs, hz, -, hb2⟩ := ino_store HZ1.out Im.nought
      have hs2 : (inoStore (.pointer (some ⟨w.heap.size + 1 + 1, 0, none⟩)) (.agg #[.int .u8 0, .int .u16 0, .int .u32 0, .int .u16 0, .int .u16 0, .int .u16 0, .int .u16 0, .int .u16 0])).run Tryz.prog w1 = .ok () w2 := hs
      have HZ2 := Lib.hid hz
      have HB2 := Lib.hid ((HB.out.trans (HB1.out.mono HB.out.size)).trans (hb2 _ (by omega)))
      clear hs hz hb2
      go_wp2_with fail
      refine bodyPost_ret (v := .tuple #[Im.nought.v, .slice none 0 0, .int .i64 r]) ?_ rfl ⟨rfl, HB2.out⟩
      exact results_row_tmp2 (p := 8) (q := 9) (s := 10) rfl _ _ (w.heap.size + 1 + 1) _ rfl (ino_var HZ2.out)
  · rw [decide_eq_false (fun h => h0 h.1)] at hN
    have hd0 : decide (0 ≤ p) = false := decide_eq_false h0
    clear h0
    have HN := Lib.hid hN
    clear hN
    go_enter Tryz.func13, Tryz.ntmps13
    go_wp2_with fail
    rw [HW.out]
    clear HW
    refine (HN.out _).mono ?_
    rintro e w1 ⟨rfl, hb⟩
    have HB1 := Lib.hid hb
    have HG1 := Lib.hid (HG.out.below HB1.out)
    have HX1 := Lib.hid (HX.out.below HB1.out HX.out.lt)
    obtain ⟨g0, g1, g2, x0, x1, x2, x3, x4, x5, x6, x7⟩ := Boxes.of HG1.out HX1.out
    have HZ1 := Lib.hid (HZ.out.below HB1.out HZ.out.lt)
    clear hb
    obtain ⟨w2, hs, hz, -, hb2⟩ := ino_store HZ1.out Im.nought
    have hs2 : (inoStore (.pointer (some ⟨w.heap.size + 1 + 1, 0, none⟩)) (.agg #[.int .u8 0, .int .u16 0, .int .u32 0, .int .u16 0, .int .u16 0, .int .u16 0, .int .u16 0, .int .u16 0])).run Tryz.prog w1 = .ok () w2 := hs
    have HZ2 := Lib.hid hz
    have HB2 := Lib.hid ((HB.out.trans (HB1.out.mono HB.out.size)).trans (hb2 _ (by omega)))
    clear hs hz hb2
    go_wp2_with fail
    refine bodyPost_ret (v := .tuple #[Im.nought.v, .slice none 0 0, .int .i64 r]) ?_ rfl ⟨rfl, HB2.out⟩
    exact results_row_tmp2 (p := 8) (q := 9) (s := 10) rfl _ _ (w.heap.size + 1 + 1) _ rfl (ino_var HZ2.out)
set_option maxHeartbeats 4000000 in
theorem cut_low (t : Option Addr) (i b j : Int) (x : Im) (hxf : x.fits) (p : Nat) (hp : p ≤ 4) (l : List Nat) (hl : l.length = 32) (hlt : ∀ y ∈ l, y < 65536) (w : World) (hN : ∀ V, Calls Tryz.prog 25 #[.pointer t, geoV i b j, x.v, .bool (decide (0 ≤ (p : Int) ∧ (p : Int) ≤ 36)), .slice none 0 0] V fun e w' => e = .returned (.int .i64 0) ∧ Below V.heap.size V w')
    (hR : ∀ V, Below w.heap.size w V → Calls Tryz.prog 27 #[.pointer t, geoV i b j, w16 x.i] V fun e w' => e = .returned (.tuple #[lisV l, .int .i64 0]) ∧ Below V.heap.size V w') :
    Calls Tryz.prog 13 #[.pointer t, geoV i b j, x.v, .int .i64 (p : Int)] w fun e w' => ∃ v, e = .returned (.tuple #[(x.cut p).v, v, .int .i64 0]) ∧ (∀ k, v.ownBlock = some k → w.heap.size ≤ k) ∧ U16s w' v (freeL (p : Int) (prL x l)) ∧ Below w.heap.size w w' := by
  obtain ⟨hG, hX, hZ, hB⟩ := box_giz w i b j x
  generalize hW : (((w.alloc (.cells #[.int .i64 i, .int .i64 b, .int .i64 j] 23)).alloc (.cells #[.int .u8 x.k, w16 x.n, .int .u32 x.z, w16 x.d0, w16 x.d1, w16 x.d2, w16 x.d3, w16 x.i] 28)).alloc (.cells #[.int .u8 0, .int .u16 0, .int .u32 0, .int .u16 0, .int .u16 0, .int .u16 0, .int .u16 0, .int .u16 0] 28)) = W0 at *
  obtain ⟨g0, g1, g2, x0, x1, x2, x3, x4, x5, x6, x7⟩ := Boxes.of hG hX
  have HG := Lib.hid hG
  have HX := Lib.hid hX
  have HZ := Lib.hid hZ
  have HB := Lib.hid hB
  have HW := Lib.hid hW
  clear hW hG hX hZ hB
  rw [decide_eq_true (by omega)] at hN
  have HN := Lib.hid hN
  have HR := Lib.hid hR
  have HSp := Lib.hid fun V => spare_any x hxf l hl hlt (p : Int) V
  have hd0 : decide (0 ≤ (p : Int)) = true := decide_eq_true (by omega)
  have hd1 : decide ((p : Int) ≤ 36) = true := decide_eq_true (by omega)
  have hd4 : decide ((p : Int) ≤ 4) = true := decide_eq_true (by omega)
  clear hN hR hlt hxf
  go_enter Tryz.func13, Tryz.ntmps13
  go_wp2_with fail
  rw [HW.out]
  clear HW
  refine (HN.out _).mono ?_
  rintro e w1 ⟨rfl, hb⟩
  have HB1 := Lib.hid hb
  have HG1 := Lib.hid (HG.out.below HB1.out)
  have HX1 := Lib.hid (HX.out.below HB1.out HX.out.lt)
  obtain ⟨g0, g1, g2, x0, x1, x2, x3, x4, x5, x6, x7⟩ := Boxes.of HG1.out HX1.out
  have HZ1 := Lib.hid (HZ.out.below HB1.out HZ.out.lt)
  clear hb
  have HW1 := Lib.hid (HB.out.trans (HB1.out.mono HB.out.size))
  go_wp2_with fail
  refine (HR.out _ HW1.out).mono ?_
  rintro e w2 ⟨rfl, hb⟩
  have hG2 := HG1.out.below hb
  have hX2 := HX1.out.below hb HX1.out.lt
  have hZ2 := HZ1.out.below hb HZ1.out.lt
  have HB2 := Lib.hid (HW1.out.trans (hb.mono HW1.out.size))
  have hsz2 := hb.size
  obtain ⟨Z, w3, hz, hs, hL, hb3⟩ := lis_new w2 l hl
  have HG3 := Lib.hid (hG2.below hb3)
  have HX3 := Lib.hid (hX2.below hb3 hX2.lt)
  have HZ3 := Lib.hid (hZ2.below hb3 hZ2.lt)
  have HB3 := Lib.hid (HB2.out.trans (hb3.mono HB2.out.size))
  have HL3 := Lib.hid hL
  have hld := lis_load hL
  have hltL := hL.lt
  have hltZ := hZ2.lt
  have hsz3 := hb3.size
  obtain ⟨g0, g1, g2, x0, x1, x2, x3, x4, x5, x6, x7⟩ := Boxes.of HG3.out HX3.out
  clear hb hb3 hG2 hX2 hZ2 hL
  go_wp2_with fail
  refine (HSp.out _).mono ?_
  rintro e w4 ⟨v, rfl, hu, hfr, hb4⟩
  have hX4 := HX3.out.below hb4 HX3.out.lt
  have hZ4 := HZ3.out.below hb4 HZ3.out.lt
  have HB4 := Lib.hid (HB3.out.trans (hb4.mono HB3.out.size))
  have hsz4 := hb4.size
  obtain ⟨o, ho, hsl⟩ := slice_dir (w.heap.size + 1) p hp
  obtain ⟨w5, hcl, hX5, ho5, hb5⟩ := dir_clear hX4 p hp o ho (4 - p) 0
  have hX6 : InoAt (w5.setCell ⟨w.heap.size + 1, 7, none⟩ (.int .u16 0)) (w.heap.size + 1) (x.cut p) := setInd_cells hX5 0
  have hZ6 : InoAt (w5.setCell ⟨w.heap.size + 1, 7, none⟩ (.int .u16 0)) (w.heap.size + 1 + 1) Im.nought := (heap_setCell_other _ _ _ _ (by simp)).trans ((ho5 _ (by omega)).trans hZ4)
  have h7 := (Boxes.cells hX5).2.2.2.2.2.2.2
  have hfr7 : w5.frozen? ⟨w.heap.size + 1, 7, none⟩ = false := frozen_of_row w5 _ _ _ _ hX5
  obtain ⟨x0, x1, x2, x3, x4, x5, x6, x7⟩ := Boxes.cells hX6
  obtain ⟨w7, hs7, hz7, ho7, hb7⟩ := ino_store hZ6 (x.cut p)
  have HZ7 := Lib.hid hz7
  have hsame : ∀ k, k ≠ w.heap.size + 1 → k ≠ w.heap.size + 1 + 1 → w7.heap[k]? = w4.heap[k]? := fun k h1 h2 => (ho7 k h2).trans ((heap_setCell_other _ _ _ _ (by simpa using h1)).trans (ho5 k h1))
  have HFr := Lib.hid (show ∀ k, v.ownBlock = some k → w.heap.size ≤ k from fun k hk => Nat.le_trans HB3.out.size (hfr k hk))
  have HU := Lib.hid (hu.kept (W' := w7) fun k hk => hsame k (by have := hfr k hk; omega) (by have := hfr k hk; omega))
  have HB7 := Lib.hid ((((HB4.out.trans (hb5 _ (by omega))).setCell (p := ⟨w.heap.size + 1, 7, none⟩) (by simp) (.int .u16 0))).trans (hb7 _ (by omega)))
  clear hX4 hZ4 hX5 hX6 hZ6 ho5 hb5 ho7 hb7 hz7 hsame hu hfr hb4 ho
  generalize hc : x.cut p = y at *
  have HC := Lib.hid hc
  clear hc
  go_wp2_with fail
  refine bodyPost_ret (v := .tuple #[y.v, v, .int .i64 0]) ?_ rfl ⟨v, by rw [HC.out], HFr.out, HU.out, HB7.out⟩
  exact results_row_tmp2 (p := 8) (q := 9) (s := 10) rfl _ _ (w.heap.size + 1 + 1) _ rfl (ino_var HZ7.out)
set_option maxHeartbeats 4000000 in
theorem cut_high (t : Option Addr) (i b j : Int) (x : Im) (hxf : x.fits) (p : Nat) (hp : 4 < p) (hp2 : p ≤ 36) (l : List Nat) (hl : l.length = 32) (hlt : ∀ y ∈ l, y < 65536) (r : Int) (w : World) (m0 : Nat) (hm : m0 < w.heap.size) (Q : World → Prop) (hQ : ∀ V V', Q V → (∀ k, k < w.heap.size → V'.heap[k]? = V.heap[k]?) → Q V')
    (hN : ∀ V, Calls Tryz.prog 25 #[.pointer t, geoV i b j, x.v, .bool (decide (0 ≤ (p : Int) ∧ (p : Int) ≤ 36)), .slice none 0 0] V fun e w' => e = .returned (.int .i64 0) ∧ Below V.heap.size V w')
    (hR : ∀ V, Below w.heap.size w V → Calls Tryz.prog 27 #[.pointer t, geoV i b j, w16 x.i] V fun e w' => e = .returned (.tuple #[lisV l, .int .i64 0]) ∧ Below V.heap.size V w')
    (hSh : ∀ V, Below w.heap.size w V → Calls Tryz.prog 30 #[.pointer t, geoV i b j, w16 x.i, lisV l, .int .i64 (p : Int)] V fun e w' => e = .returned (.int .i64 r) ∧ Q w' ∧ Only (fun k => k = m0) V w') :
    Calls Tryz.prog 13 #[.pointer t, geoV i b j, x.v, .int .i64 (p : Int)] w fun e w' => ∃ (y : Im) (v : Value), e = .returned (.tuple #[y.v, v, .int .i64 r]) ∧ (r = 0 → y = x ∧ (∀ k, v.ownBlock = some k → w.heap.size ≤ k) ∧ U16s w' v (freeL (p : Int) (prL x l))) ∧ (r ≠ 0 → y = Im.nought ∧ v = .slice none 0 0) ∧ Q w' ∧ Only (fun k => k = m0) w w' := by
  obtain ⟨hG, hX, hZ, hB⟩ := box_giz w i b j x
  generalize hW : (((w.alloc (.cells #[.int .i64 i, .int .i64 b, .int .i64 j] 23)).alloc (.cells #[.int .u8 x.k, w16 x.n, .int .u32 x.z, w16 x.d0, w16 x.d1, w16 x.d2, w16 x.d3, w16 x.i] 28)).alloc (.cells #[.int .u8 0, .int .u16 0, .int .u32 0, .int .u16 0, .int .u16 0, .int .u16 0, .int .u16 0, .int .u16 0] 28)) = W0 at *
  obtain ⟨g0, g1, g2, x0, x1, x2, x3, x4, x5, x6, x7⟩ := Boxes.of hG hX
  have HG := Lib.hid hG
  have HX := Lib.hid hX
  have HZ := Lib.hid hZ
  have HB := Lib.hid hB
  have HW := Lib.hid hW
  clear hW hG hX hZ hB
  rw [decide_eq_true (by omega)] at hN
  have HN := Lib.hid hN
  have HR := Lib.hid hR
  have HSp := Lib.hid fun V => spare_any x hxf l hl hlt (p : Int) V
  have HSh := Lib.hid hSh
  have HQ := Lib.hid hQ
  have hd0 : decide (0 ≤ (p : Int)) = true := decide_eq_true (by omega)
  have hd1 : decide ((p : Int) ≤ 36) = true := decide_eq_true (by omega)
  have hd4 : decide ((p : Int) ≤ 4) = false := decide_eq_false (by omega)
  clear hN hR hlt hxf hSh hQ hp hp2
  go_enter Tryz.func13, Tryz.ntmps13
  go_wp2_with fail
  rw [HW.out]
  clear HW
  refine (HN.out _).mono ?_
  rintro e w1 ⟨rfl, hb⟩
  have HB1 := Lib.hid hb
  have HG1 := Lib.hid (HG.out.below HB1.out)
  have HX1 := Lib.hid (HX.out.below HB1.out HX.out.lt)
  obtain ⟨g0, g1, g2, x0, x1, x2, x3, x4, x5, x6, x7⟩ := Boxes.of HG1.out HX1.out
  have HZ1 := Lib.hid (HZ.out.below HB1.out HZ.out.lt)
  clear hb
  have HW1 := Lib.hid (HB.out.trans (HB1.out.mono HB.out.size))
  go_wp2_with fail
  refine (HR.out _ HW1.out).mono ?_
  rintro e w2 ⟨rfl, hb⟩
  have hG2 := HG1.out.below hb
  have hX2 := HX1.out.below hb HX1.out.lt
  have hZ2 := HZ1.out.below hb HZ1.out.lt
  have HB2 := Lib.hid (HW1.out.trans (hb.mono HW1.out.size))
  have hsz2 := hb.size
  obtain ⟨Z, w3, hz, hs, hL, hb3⟩ := lis_new w2 l hl
  have HG3 := Lib.hid (hG2.below hb3)
  have HX3 := Lib.hid (hX2.below hb3 hX2.lt)
  have HZ3 := Lib.hid (hZ2.below hb3 hZ2.lt)
  have HB3 := Lib.hid (HB2.out.trans (hb3.mono HB2.out.size))
  have HL3 := Lib.hid hL
  have hld := lis_load hL
  have hltL := hL.lt
  have hltZ := hZ2.lt
  have hsz3 := hb3.size
  obtain ⟨g0, g1, g2, x0, x1, x2, x3, x4, x5, x6, x7⟩ := Boxes.of HG3.out HX3.out
  clear hb hb3 hG2 hX2 hZ2 hL
  go_wp2_with fail
  refine (HSp.out _).mono ?_
  rintro e w4 ⟨v, rfl, hu, hfr, hb4⟩
  have hG4 := HG3.out.below hb4
  have hX4 := HX3.out.below hb4 HX3.out.lt
  have hZ4 := HZ3.out.below hb4 HZ3.out.lt
  have HB4 := Lib.hid (HB3.out.trans (hb4.mono HB3.out.size))
  have hsz4 := hb4.size
  have hld4 := lis_load (HL3.out.below hb4 HL3.out.lt)
  obtain ⟨g0, g1, g2, x0, x1, x2, x3, x4, x5, x6, x7⟩ := Boxes.of hG4 hX4
  have HX4 := Lib.hid hX4
  have HZ4 := Lib.hid hZ4
  have HU4 := Lib.hid hu
  have HFr := Lib.hid hfr
  clear hb4 hG4 hX4 hZ4 hu hfr hs hld
  go_wp2_with fail
  refine (HSh.out _ HB4.out).mono ?_
  rintro e w6 ⟨rfl, hq6, ho6⟩
  have hX6 : InoAt w6 (w.heap.size + 1) x := (ho6.block _ HX4.out.lt (by omega)).trans HX4.out
  have hZ6 : InoAt w6 (w.heap.size + 1 + 1) Im.nought := (ho6.block _ HZ4.out.lt (by omega)).trans HZ4.out
  have hU6 : U16s w6 v (freeL (p : Int) (prL x l)) := HU4.out.kept' fun k hk hkl => ho6.block k hkl (by have := HFr.out k hk; omega)
  have ho0 : Only (fun k => k = m0) w w6 := (Only.of_below (S := fun k => k = m0) HB4.out).trans ho6 fun k hk => .inl hk
  obtain ⟨x0, x1, x2, x3, x4, x5, x6, x7⟩ := Boxes.cells hX6
  have HO := Lib.hid ho0
  have HQ6 := Lib.hid hq6
  have HZ6 := Lib.hid hZ6
  clear ho0 ho6 hq6 hX6 hZ6 hld4
  by_cases hr : r = 0
  · obtain ⟨w7, hs, hz7, ho7, hb7⟩ := ino_store HZ6.out x
    have HZ7 := Lib.hid hz7
    have HU7 := Lib.hid (hU6.kept (W' := w7) fun k hk => ho7 k (by have := HFr.out k hk; omega))
    have HQ7 := Lib.hid (HQ.out w6 w7 HQ6.out fun k hk => ho7 k (by omega))
    have HO7 := Lib.hid (HO.out.trans ⟨(hb7 0 (Nat.zero_le _)).os, (hb7 0 (Nat.zero_le _)).tape, (hb7 0 (Nat.zero_le _)).output, (hb7 0 (Nat.zero_le _)).size, fun k _ hn => ho7 k hn⟩ (S' := fun k => k = w.heap.size + 1 + 1) fun k hk => .inr (by omega))
    have HR0 := Lib.hid hr
    have hne : (r != 0) = false := by simpa using hr
    clear hz7 ho7 hb7 hr hU6
    go_wp2_with fail
    refine bodyPost_ret (v := .tuple #[x.v, v, .int .i64 r]) ?_ rfl ⟨x, v, rfl, fun _ => ⟨rfl, fun k hk => Nat.le_trans HB3.out.size (HFr.out k hk), HU7.out⟩, fun h => absurd HR0.out h, HQ7.out, HO7.out⟩
    rw [HR0.out]
    exact results_row_tmp2 (p := 8) (q := 9) (s := 10) rfl _ _ (w.heap.size + 1 + 1) _ rfl (ino_var HZ7.out)
  · obtain ⟨w7, hs, hz7, ho7, hb7⟩ := ino_store HZ6.out Im.nought
    have hs7 : (inoStore (.pointer (some ⟨w.heap.size + 1 + 1, 0, none⟩)) (.agg #[.int .u8 0, .int .u16 0, .int .u32 0, .int .u16 0, .int .u16 0, .int .u16 0, .int .u16 0, .int .u16 0])).run Tryz.prog w6 = .ok () w7 := hs
    have HZ7 := Lib.hid hz7
    have HQ7 := Lib.hid (HQ.out w6 w7 HQ6.out fun k hk => ho7 k (by omega))
    have HO7 := Lib.hid (HO.out.trans ⟨(hb7 0 (Nat.zero_le _)).os, (hb7 0 (Nat.zero_le _)).tape, (hb7 0 (Nat.zero_le _)).output, (hb7 0 (Nat.zero_le _)).size, fun k _ hn => ho7 k hn⟩ (S' := fun k => k = w.heap.size + 1 + 1) fun k hk => .inr (by omega))
    have HR0 := Lib.hid hr
    have hne : (r != 0) = true := by simpa using hr
    clear hz7 ho7 hb7 hr hs hU6
    go_wp2_with fail
    refine bodyPost_ret (v := .tuple #[Im.nought.v, .slice none 0 0, .int .i64 r]) ?_ rfl ⟨Im.nought, .slice none 0 0, rfl, fun h => absurd h HR0.out, fun _ => ⟨rfl, rfl⟩, HQ7.out, HO7.out⟩
    exact results_row_tmp2 (p := 8) (q := 9) (s := 10) rfl _ _ (w.heap.size + 1 + 1) _ rfl (ino_var HZ7.out)
set_option maxHeartbeats 4000000 in
theorem all_of (t : Option Addr) (i b j : Int) (x : Im) (y : Im) (fl : List Nat) (r : Int) (w : World) (hC : ∀ V, Below w.heap.size w V → Calls Tryz.prog 13 #[.pointer t, geoV i b j, x.v, .int .i64 0] V fun e w' => ∃ v, e = .returned (.tuple #[y.v, v, .int .i64 r]) ∧ U16s w' v fl ∧ Below V.heap.size V w') :
    Calls Tryz.prog 12 #[.pointer t, geoV i b j, x.v] w fun e w' => ∃ v, e = .returned (.tuple #[v, .int .i64 r]) ∧ U16s w' v fl ∧ Below w.heap.size w w' := by
  obtain ⟨hG, hX, hB⟩ := box_gi w i b j x
  generalize hW : ((w.alloc (.cells #[.int .i64 i, .int .i64 b, .int .i64 j] 23)).alloc (.cells #[.int .u8 x.k, w16 x.n, .int .u32 x.z, w16 x.d0, w16 x.d1, w16 x.d2, w16 x.d3, w16 x.i] 28)) = W0 at *
  have HB := Lib.hid hB
  have HW := Lib.hid hW
  have HC := Lib.hid hC
  clear hW hG hX hB hC
  go_enter Tryz.func12, Tryz.ntmps12
  go_wp2_with fail
  rw [HW.out]
  clear HW
  refine (HC.out _ HB.out).mono ?_
  rintro e w1 ⟨v, rfl, hu, hb⟩
  have hZ : InoAt (w1.alloc (.cells #[.int .u8 0, .int .u16 0, .int .u32 0, .int .u16 0, .int .u16 0, .int .u16 0, .int .u16 0, .int .u16 0] 28)) w1.heap.size Im.nought := heap_alloc_new w1 _
  have hb1 : Below w1.heap.size w1 (w1.alloc (.cells #[.int .u8 0, .int .u16 0, .int .u32 0, .int .u16 0, .int .u16 0, .int .u16 0, .int .u16 0, .int .u16 0] 28)) := (Below.refl _ _).alloc (Nat.le_refl _) _
  obtain ⟨w2, hs, -, -, hb2⟩ := ino_store hZ y
  have hb12 := hb1.trans (hb2 _ (Nat.le_refl _))
  have HU := Lib.hid (hu.below hb12)
  have HB2 := Lib.hid ((HB.out.trans (hb.mono HB.out.size)).trans (hb12.mono (Nat.le_trans HB.out.size hb.size)))
  clear hu hb hZ hb1 hb2 hb12
  go_wp2_with fail
  go_ret2
  exact ⟨v, rfl, HU.out, HB2.out⟩
end Go.Proofs.YtdddennhdbmolaaGreat
