/- Layer 9 (bmap), the document's answers: Set. Written by tools/genbmapr4.py. -/
import Derived.Test.YtdddennhdbmolaaGreatBmapR3
namespace Go.Proofs.YtdddennhdbmolaaGreat
open Go.RowKit Go.Maps Go.Lib
set_option linter.unusedVariables false
set_option linter.unusedSimpArgs false
set_option maxRecDepth 10000
attribute [local go_sem ↓] ino_store_fold
/-- The store of four blocks: the walk doesn't open it. -/
def dirStore (x v : Value) : Sem Unit := Instr.storeAt 26 x v
theorem dir_store_fold (x v : Value) : Instr.storeAt 26 x v = dirStore x v := rfl
attribute [local go_sem ↓] dir_store_fold
theorem dir_new (W : World) (c : Array Value) (hc : c.size = 4) (d0 d1 d2 d3 : Nat) : (dirStore (.pointer (some ⟨W.heap.size, 0, none⟩)) (.agg #[w16 d0, w16 d1, w16 d2, w16 d3])).run Tryz.prog (W.alloc (.cells c 26)) = .ok () (W.alloc (.cells #[w16 d0, w16 d1, w16 d2, w16 d3] 26)) :=
  run_storeAt_new W 26 c #[w16 d0, w16 d1, w16 d2, w16 d3] (by kernel_rfl) (by rw [hc]; rfl) (by simp [Value.oneCell'])
theorem dir_store {W : World} {h : Nat} {x : Im} (hx : InoAt W h x) (d0 d1 d2 d3 : Nat) :
    ∃ W', (dirStore (.pointer (some ⟨h, 3, none⟩)) (.agg #[w16 d0, w16 d1, w16 d2, w16 d3])).run Tryz.prog W = .ok () W' ∧ InoAt W' h ⟨x.k, x.n, x.z, d0, d1, d2, d3, x.i⟩ ∧ (∀ k, k ≠ h → W'.heap[k]? = W.heap[k]?) ∧ ∀ m, m ≤ h → Below m W W' := by
  have hth : W.there h 3 4 := fun j hj => by
    refine ⟨?_, frozen_of_row W h _ _ _ hx⟩
    rw [cell_of_row W h (3 + j) _ _ (0, 0) hx]
    match j, hj with
    | 0, _ => rfl
    | 1, _ => rfl
    | 2, _ => rfl
    | 3, _ => rfl
  have hrun := run_storeAt_mid (P := Tryz.prog) W h 3 26 #[w16 d0, w16 d1, w16 d2, w16 d3] hth (by kernel_rfl) (by simp [Value.oneCell'])
  refine ⟨_, hrun, ?_, fun k hk => other_setCells hk _ _ _, fun m hm => below_setCells h hm _ _ _ (Below.refl _ _)⟩
  unfold InoAt
  exact setCells_heap h 28 [w16 d0, w16 d1, w16 d2, w16 d3] 3 [.int .u8 x.k, w16 x.n, .int .u32 x.z, w16 x.d0, w16 x.d1, w16 x.d2, w16 x.d3, w16 x.i] W hx (by simp)
theorem own_cells {W : World} {base : Nat} {v : Value} {l : List Nat} (h : OwnN W base v l) (hl : 0 < l.length) :
    ∃ g cap cur, v = .slice (some ⟨g, 0, none⟩) l.length cap ∧ base ≤ g ∧ W.heap[g]? = some (.cells cur 24 (0, 0)) ∧ l.length ≤ cap ∧ cur.size = cap := by
  rcases h.2 with ⟨-, h0⟩ | ⟨g, cap, cur, hv, hb, hg, hc, -, hs, -⟩
  · omega
  · exact ⟨g, cap, cur, hv, hb, hg, hc, by rw [hs, Nat.mul_one]⟩
theorem own_set {W : World} {base g cap : Nat} {cur : Array Value} {l : List Nat} (h : OwnN W base (.slice (some ⟨g, 0, none⟩) l.length cap) l) (hg : W.heap[g]? = some (.cells cur 24 (0, 0))) (q c : Nat) (hq : q < l.length) :
    U16s (W.setCell ⟨g, q, none⟩ (w16 c)) (.slice (some ⟨g, 0, none⟩) l.length cap) (l.set q c) := by
  obtain ⟨A, c', e, hc⟩ := h.u16s
  cases e
  refine ⟨_, _, by rw [List.length_set], fun j n hj => ⟨_, rfl, ?_⟩⟩
  rw [addr_add0]
  by_cases hjq : q = j
  · subst hjq
    rw [List.getElem?_set_self hq] at hj
    cases hj
    obtain ⟨a, e, h2⟩ := hc q (l[q]) (List.getElem?_eq_getElem hq)
    cases e
    rw [addr_add0] at h2
    exact World.cell?_setCell_same' _ _ _ (by rw [h2]; rfl)
  · rw [List.getElem?_set_ne hjq] at hj
    obtain ⟨a, e, h2⟩ := hc j n hj
    cases e
    rw [addr_add0] at h2
    rw [World.cell?_setCell_other _ _ _ _ (by intro e; injection e with e1 e2; exact hjq e2)]
    exact h2
set_option maxHeartbeats 2000000 in
theorem rset_no (r : Value) (G : Gm) (hG : G.ok) (x : Im) (hxf : x.fits) (p : Int) (c : Nat) (hc : c < 65536) (hbad : ¬ (fitB G x c ∧ pageP p)) (w : World) :
    Calls Tryz.prog 37 #[r, gv G, x.v, .int .i64 p, w16 c] w fun e w' => e = .returned (.tuple #[Im.nought.v, .int .i64 2]) ∧ Below w.heap.size w w' := by
  obtain ⟨hGe, hX, hZ, hB⟩ := box_giz w G.i G.b G.j x
  generalize hW : (((w.alloc (.cells #[.int .i64 G.i, .int .i64 G.b, .int .i64 G.j] 23)).alloc (.cells #[.int .u8 x.k, w16 x.n, .int .u32 x.z, w16 x.d0, w16 x.d1, w16 x.d2, w16 x.d3, w16 x.i] 28)).alloc (.cells #[.int .u8 0, .int .u16 0, .int .u32 0, .int .u16 0, .int .u16 0, .int .u16 0, .int .u16 0, .int .u16 0] 28)) = W0 at *
  obtain ⟨g0, g1, g2, x0, x1, x2, x3, x4, x5, x6, x7⟩ := Boxes.of hGe hX
  have HG := Lib.hid hGe
  have HX := Lib.hid hX
  have HZ := Lib.hid hZ
  have HB := Lib.hid hB
  have HW := Lib.hid hW
  clear hW hGe hX hZ hB
  by_cases hf : fitB G x c
  · have hM := fun V => refMay9_any G hG x hxf c (by first | omega | assumption) V
    rw [decide_eq_true hf] at hM
    have HM := Lib.hid hM
    clear hM
    by_cases h0 : p < 0
    · have hd0 : decide (p < 0) = true := decide_eq_true h0
      clear hbad h0 hf hG hxf hc
      go_enter Tryz.func37, Tryz.ntmps37
      go_wp2_with fail
      rw [HW.out]
      clear HW
      refine (HM.out _).mono ?_
      rintro e w1 ⟨rfl, hb⟩
      have HB1 := Lib.hid hb
      have HG1 := Lib.hid (HG.out.below HB1.out)
      have HX1 := Lib.hid (HX.out.below HB1.out HX.out.lt)
      obtain ⟨g0, g1, g2, x0, x1, x2, x3, x4, x5, x6, x7⟩ := Boxes.of HG1.out HX1.out
      have HZ1 := Lib.hid (HZ.out.below HB1.out HZ.out.lt)
      clear hb
      obtain ⟨w2, hs, hz, -, hb2⟩ := ino_store HZ1.out Im.nought
      have hs2 : (inoStore (.pointer (some ⟨w.heap.size + 1 + 1, 0, none⟩)) (.agg #[.int .u8 0, .int .u16 0, .int .u32 0, .int .u16 0, .int .u16 0, .int .u16 0, .int .u16 0, .int .u16 0])).run Tryz.prog w1 = .ok () w2 := hs
      have HZ2 := Lib.hid hz
      have HB2 := Lib.hid ((HB.out.trans (HB1.out.mono HB.out.size)).trans (hb2 _ (by omega)))
      clear hs hz hb2
      go_wp2_with fail
      refine bodyPost_ret (v := .tuple #[Im.nought.v, .int .i64 2]) ?_ rfl ⟨rfl, HB2.out⟩
      exact results_row_tmp (p := 10) (q := 11) rfl _ _ (w.heap.size + 1 + 1) _ rfl (ino_var HZ2.out)
    · have hd0 : decide (p < 0) = false := decide_eq_false h0
      have h36 : 36 ≤ p := by
        have h2 : ¬ pageP p := fun e => hbad ⟨hf, e⟩
        unfold pageP at h2
        omega
      have hd1 : decide (36 ≤ p) = true := decide_eq_true h36
      clear hbad h0 hf hG hxf hc
      go_enter Tryz.func37, Tryz.ntmps37
      go_wp2_with fail
      rw [HW.out]
      clear HW
      refine (HM.out _).mono ?_
      rintro e w1 ⟨rfl, hb⟩
      have HB1 := Lib.hid hb
      have HG1 := Lib.hid (HG.out.below HB1.out)
      have HX1 := Lib.hid (HX.out.below HB1.out HX.out.lt)
      obtain ⟨g0, g1, g2, x0, x1, x2, x3, x4, x5, x6, x7⟩ := Boxes.of HG1.out HX1.out
      have HZ1 := Lib.hid (HZ.out.below HB1.out HZ.out.lt)
      clear hb
      obtain ⟨w2, hs, hz, -, hb2⟩ := ino_store HZ1.out Im.nought
      have hs2 : (inoStore (.pointer (some ⟨w.heap.size + 1 + 1, 0, none⟩)) (.agg #[.int .u8 0, .int .u16 0, .int .u32 0, .int .u16 0, .int .u16 0, .int .u16 0, .int .u16 0, .int .u16 0])).run Tryz.prog w1 = .ok () w2 := hs
      have HZ2 := Lib.hid hz
      have HB2 := Lib.hid ((HB.out.trans (HB1.out.mono HB.out.size)).trans (hb2 _ (by omega)))
      clear hs hz hb2
      go_wp2_with fail
      refine bodyPost_ret (v := .tuple #[Im.nought.v, .int .i64 2]) ?_ rfl ⟨rfl, HB2.out⟩
      exact results_row_tmp (p := 10) (q := 11) rfl _ _ (w.heap.size + 1 + 1) _ rfl (ino_var HZ2.out)
  · have hM := fun V => refMay9_any G hG x hxf c (by first | omega | assumption) V
    rw [decide_eq_false hf] at hM
    have HM := Lib.hid hM
    clear hM
    clear hbad hf hG hxf hc
    go_enter Tryz.func37, Tryz.ntmps37
    go_wp2_with fail
    rw [HW.out]
    clear HW
    refine (HM.out _).mono ?_
    rintro e w1 ⟨rfl, hb⟩
    have HB1 := Lib.hid hb
    have HG1 := Lib.hid (HG.out.below HB1.out)
    have HX1 := Lib.hid (HX.out.below HB1.out HX.out.lt)
    obtain ⟨g0, g1, g2, x0, x1, x2, x3, x4, x5, x6, x7⟩ := Boxes.of HG1.out HX1.out
    have HZ1 := Lib.hid (HZ.out.below HB1.out HZ.out.lt)
    clear hb
    obtain ⟨w2, hs, hz, -, hb2⟩ := ino_store HZ1.out Im.nought
    have hs2 : (inoStore (.pointer (some ⟨w.heap.size + 1 + 1, 0, none⟩)) (.agg #[.int .u8 0, .int .u16 0, .int .u32 0, .int .u16 0, .int .u16 0, .int .u16 0, .int .u16 0, .int .u16 0])).run Tryz.prog w1 = .ok () w2 := hs
    have HZ2 := Lib.hid hz
    have HB2 := Lib.hid ((HB.out.trans (HB1.out.mono HB.out.size)).trans (hb2 _ (by omega)))
    clear hs hz hb2
    go_wp2_with fail
    refine bodyPost_ret (v := .tuple #[Im.nought.v, .int .i64 2]) ?_ rfl ⟨rfl, HB2.out⟩
    exact results_row_tmp (p := 10) (q := 11) rfl _ _ (w.heap.size + 1 + 1) _ rfl (ino_var HZ2.out)
set_option maxHeartbeats 2000000 in
theorem rset_none (r : Value) (G : Gm) (hG : G.ok) (x : Im) (hxf : x.fits) (p : Int) (c : Nat) (hc : c < 65536) (hok : fitB G x c ∧ pageP p) (h4 : 4 ≤ p) (hi : x.i = 0) (w : World) :
    Calls Tryz.prog 37 #[r, gv G, x.v, .int .i64 p, w16 c] w fun e w' => e = .returned (.tuple #[Im.nought.v, .int .i64 3]) ∧ Below w.heap.size w w' := by
  obtain ⟨hGe, hX, hZ, hB⟩ := box_giz w G.i G.b G.j x
  generalize hW : (((w.alloc (.cells #[.int .i64 G.i, .int .i64 G.b, .int .i64 G.j] 23)).alloc (.cells #[.int .u8 x.k, w16 x.n, .int .u32 x.z, w16 x.d0, w16 x.d1, w16 x.d2, w16 x.d3, w16 x.i] 28)).alloc (.cells #[.int .u8 0, .int .u16 0, .int .u32 0, .int .u16 0, .int .u16 0, .int .u16 0, .int .u16 0, .int .u16 0] 28)) = W0 at *
  obtain ⟨g0, g1, g2, x0, x1, x2, x3, x4, x5, x6, x7⟩ := Boxes.of hGe hX
  have HG := Lib.hid hGe
  have HX := Lib.hid hX
  have HZ := Lib.hid hZ
  have HB := Lib.hid hB
  have HW := Lib.hid hW
  clear hW hGe hX hZ hB
  have hM := fun V => refMay9_any G hG x hxf c (by first | omega | assumption) V
  rw [decide_eq_true hok.1] at hM
  have HM := Lib.hid hM
  clear hM
  have hpp := hok.2
  unfold pageP at hpp
  have hd0 : decide (p < 0) = false := decide_eq_false (by omega)
  have hd1 : decide (36 ≤ p) = false := decide_eq_false (by omega)
  have hd4 : decide (p < 4) = false := decide_eq_false (by omega)
  have hib : ((x.i : Int) == 0) = true := by rw [hi]; rfl
  clear hok hpp h4 hG hxf hc hi
  go_enter Tryz.func37, Tryz.ntmps37
  go_wp2_with fail
  rw [HW.out]
  clear HW
  refine (HM.out _).mono ?_
  rintro e w1 ⟨rfl, hb⟩
  have HB1 := Lib.hid hb
  have HG1 := Lib.hid (HG.out.below HB1.out)
  have HX1 := Lib.hid (HX.out.below HB1.out HX.out.lt)
  obtain ⟨g0, g1, g2, x0, x1, x2, x3, x4, x5, x6, x7⟩ := Boxes.of HG1.out HX1.out
  have HZ1 := Lib.hid (HZ.out.below HB1.out HZ.out.lt)
  clear hb
  obtain ⟨w2, hs, hz, -, hb2⟩ := ino_store HZ1.out Im.nought
  have hs2 : (inoStore (.pointer (some ⟨w.heap.size + 1 + 1, 0, none⟩)) (.agg #[.int .u8 0, .int .u16 0, .int .u32 0, .int .u16 0, .int .u16 0, .int .u16 0, .int .u16 0, .int .u16 0])).run Tryz.prog w1 = .ok () w2 := hs
  have HZ2 := Lib.hid hz
  have HB2 := Lib.hid ((HB.out.trans (HB1.out.mono HB.out.size)).trans (hb2 _ (by omega)))
  clear hs hz hb2
  go_wp2_with fail
  refine bodyPost_ret (v := .tuple #[Im.nought.v, .int .i64 3]) ?_ rfl ⟨rfl, HB2.out⟩
  exact results_row_tmp (p := 10) (q := 11) rfl _ _ (w.heap.size + 1 + 1) _ rfl (ino_var HZ2.out)
set_option maxHeartbeats 4000000 in
theorem rset_dir (r : Value) (G : Gm) (hG : G.ok) (x : Im) (hxf : x.fits) (p : Nat) (hp : p < 4) (c : Nat) (hc : c < 65536) (hf : fitB G x c) (w : World) :
    Calls Tryz.prog 37 #[r, gv G, x.v, .int .i64 (p : Int), w16 c] w fun e w' => e = .returned (.tuple #[(x.setDir p c).v, .int .i64 0]) ∧ Below w.heap.size w w' := by
  obtain ⟨hGe, hX, hZ, hB⟩ := box_giz w G.i G.b G.j x
  generalize hW : (((w.alloc (.cells #[.int .i64 G.i, .int .i64 G.b, .int .i64 G.j] 23)).alloc (.cells #[.int .u8 x.k, w16 x.n, .int .u32 x.z, w16 x.d0, w16 x.d1, w16 x.d2, w16 x.d3, w16 x.i] 28)).alloc (.cells #[.int .u8 0, .int .u16 0, .int .u32 0, .int .u16 0, .int .u16 0, .int .u16 0, .int .u16 0, .int .u16 0] 28)) = W0 at *
  obtain ⟨g0, g1, g2, x0, x1, x2, x3, x4, x5, x6, x7⟩ := Boxes.of hGe hX
  have HG := Lib.hid hGe
  have HX := Lib.hid hX
  have HZ := Lib.hid hZ
  have HB := Lib.hid hB
  have HW := Lib.hid hW
  clear hW hGe hX hZ hB
  have hM := fun V => refMay9_any G hG x hxf c (by first | omega | assumption) V
  rw [decide_eq_true hf] at hM
  have HM := Lib.hid hM
  clear hM
  have hd0 : decide ((p : Int) < 0) = false := decide_eq_false (by omega)
  have hd1 : decide (36 ≤ (p : Int)) = false := decide_eq_false (by omega)
  have hd4 : decide ((p : Int) < 4) = true := decide_eq_true (by omega)
  have hp4 : (p : Int) < 4 := by omega
  clear hf hG hxf hc
  go_enter Tryz.func37, Tryz.ntmps37
  go_wp2_with fail
  rw [HW.out]
  clear HW
  refine (HM.out _).mono ?_
  rintro e w1 ⟨rfl, hb⟩
  have HB1 := Lib.hid hb
  have HG1 := Lib.hid (HG.out.below HB1.out)
  have HX1 := Lib.hid (HX.out.below HB1.out HX.out.lt)
  obtain ⟨g0, g1, g2, x0, x1, x2, x3, x4, x5, x6, x7⟩ := Boxes.of HG1.out HX1.out
  have HZ1 := Lib.hid (HZ.out.below HB1.out HZ.out.lt)
  have hnew := fun cs hcs => dir_new w1 cs hcs x.d0 x.d1 x.d2 x.d3
  obtain ⟨e0, e1, e2, e3, hset⟩ : ∃ e0 e1 e2 e3, (w1.alloc (.cells #[w16 x.d0, w16 x.d1, w16 x.d2, w16 x.d3] 26)).setCell ⟨w1.heap.size, p, none⟩ (w16 c) = w1.alloc (.cells #[w16 e0, w16 e1, w16 e2, w16 e3] 26) ∧ (⟨x.k, x.n, x.z, e0, e1, e2, e3, x.i⟩ : Im) = x.setDir p c := by
    rw [World.setCell_alloc_new]
    match p, hp with
    | 0, _ => exact ⟨c, x.d1, x.d2, x.d3, rfl, rfl⟩
    | 1, _ => exact ⟨x.d0, c, x.d2, x.d3, rfl, rfl⟩
    | 2, _ => exact ⟨x.d0, x.d1, c, x.d3, rfl, rfl⟩
    | 3, _ => exact ⟨x.d0, x.d1, x.d2, c, rfl, rfl⟩
  obtain ⟨hset, hx'⟩ := hset
  have hb2 : Below w1.heap.size w1 (w1.alloc (.cells #[w16 e0, w16 e1, w16 e2, w16 e3] 26)) := (Below.refl _ _).alloc (Nat.le_refl _) _
  have hX2 := HX1.out.below hb2 HX1.out.lt
  have hZ2 := HZ1.out.below hb2 HZ1.out.lt
  obtain ⟨w3, hs3, hX3, ho3, hb3⟩ := dir_store hX2 e0 e1 e2 e3
  have hZ3 : InoAt w3 (w.heap.size + 1 + 1) Im.nought := (ho3 _ (by omega)).trans hZ2
  rw [hx'] at hX3
  obtain ⟨x0, x1, x2, x3, x4, x5, x6, x7⟩ := Boxes.cells hX3
  obtain ⟨w4, hs4, hz4, -, hb4⟩ := ino_store hZ3 (x.setDir p c)
  have HZ4 := Lib.hid hz4
  have HB4 := Lib.hid ((((HB.out.trans (HB1.out.mono HB.out.size)).trans (hb2.mono (Nat.le_trans HB.out.size HB1.out.size))).trans (hb3 _ (by omega))).trans (hb4 _ (by omega)))
  generalize hy : x.setDir p c = y at *
  have HY := Lib.hid hy
  clear hb hb2 hX2 hZ2 hX3 hZ3 ho3 hb3 hz4 hb4 hx' hy
  go_wp2_with fail
  refine bodyPost_ret (v := .tuple #[y.v, .int .i64 0]) ?_ rfl ⟨by rw [HY.out], HB4.out⟩
  exact results_row_tmp (p := 10) (q := 11) rfl _ _ (w.heap.size + 1 + 1) _ rfl (ino_var HZ4.out)
set_option maxHeartbeats 4000000 in
theorem rset_ind (rb : Nat) (G : Gm) (hG : G.ok) (x : Im) (hxf : x.fits) (q : Nat) (hq : q < 32) (p : Int) (hp : p = (q : Int) + 4) (c : Nat) (hc : c < 65536) (hf : fitB G x c) (hi : x.i ≠ 0) (l : List Nat) (hl : l.length = 32) (e0 : Int) (w : World) (m0 : Nat) (hm : m0 < w.heap.size) (Q : Nat → World → Prop)
    (hQ : ∀ n V V', w.heap.size ≤ n → Q n V → (∀ k, k < w.heap.size ∨ n ≤ k → V'.heap[k]? = V.heap[k]?) → Q w.heap.size V')
    (hR : ∀ V, Below w.heap.size w V → Calls Tryz.prog 59 #[devp rb, gv G, x.v] V fun e w' => ∃ v, e = .returned (.tuple #[v, .int .i64 0]) ∧ OwnN w' V.heap.size v l ∧ Below V.heap.size V w')
    (hT : ∀ V v, Below w.heap.size w V → U16s V v (l.set q c) → Calls Tryz.prog 60 #[devp rb, gv G, x.v, v] V fun e w' => e = .returned (.int .i64 e0) ∧ Q V.heap.size w' ∧ Only (fun k => k = m0) V w') :
    Calls Tryz.prog 37 #[devp rb, gv G, x.v, .int .i64 p, w16 c] w fun e w' => ∃ y : Im, e = .returned (.tuple #[y.v, .int .i64 e0]) ∧ (e0 = 0 → y = x) ∧ (e0 ≠ 0 → y = Im.nought) ∧ Q w.heap.size w' ∧ Only (fun k => k = m0) w w' := by
  obtain ⟨hGe, hX, hZ, hB⟩ := box_giz w G.i G.b G.j x
  generalize hW : (((w.alloc (.cells #[.int .i64 G.i, .int .i64 G.b, .int .i64 G.j] 23)).alloc (.cells #[.int .u8 x.k, w16 x.n, .int .u32 x.z, w16 x.d0, w16 x.d1, w16 x.d2, w16 x.d3, w16 x.i] 28)).alloc (.cells #[.int .u8 0, .int .u16 0, .int .u32 0, .int .u16 0, .int .u16 0, .int .u16 0, .int .u16 0, .int .u16 0] 28)) = W0 at *
  obtain ⟨g0, g1, g2, x0, x1, x2, x3, x4, x5, x6, x7⟩ := Boxes.of hGe hX
  have HG := Lib.hid hGe
  have HX := Lib.hid hX
  have HZ := Lib.hid hZ
  have HB := Lib.hid hB
  have HW := Lib.hid hW
  clear hW hGe hX hZ hB
  have hM := fun V => refMay9_any G hG x hxf c (by first | omega | assumption) V
  rw [decide_eq_true hf] at hM
  have HM := Lib.hid hM
  clear hM
  have HR := Lib.hid hR
  have HT := Lib.hid hT
  have HQ := Lib.hid hQ
  have hd0 : decide (p < 0) = false := decide_eq_false (by omega)
  have hd1 : decide (36 ≤ p) = false := decide_eq_false (by omega)
  have hd4 : decide (p < 4) = false := decide_eq_false (by omega)
  have hib : ((x.i : Int) == 0) = false := by simp; omega
  have hsub : p - 4 = (q : Int) := by omega
  clear hR hT hQ hf hG hxf hc hi hp
  go_enter Tryz.func37, Tryz.ntmps37
  go_wp2_with fail
  rw [HW.out]
  clear HW
  refine (HM.out _).mono ?_
  rintro e w1 ⟨rfl, hb⟩
  have HB1 := Lib.hid hb
  have HG1 := Lib.hid (HG.out.below HB1.out)
  have HX1 := Lib.hid (HX.out.below HB1.out HX.out.lt)
  obtain ⟨g0, g1, g2, x0, x1, x2, x3, x4, x5, x6, x7⟩ := Boxes.of HG1.out HX1.out
  have HZ1 := Lib.hid (HZ.out.below HB1.out HZ.out.lt)
  have HW1 := Lib.hid (HB.out.trans (HB1.out.mono HB.out.size))
  clear hb
  go_wp2_with fail
  refine (HR.out _ HW1.out).mono ?_
  rintro e w2 ⟨v, rfl, hu, hb⟩
  have hG2 := HG1.out.below hb
  have hX2 := HX1.out.below hb HX1.out.lt
  have hZ2 := HZ1.out.below hb HZ1.out.lt
  have hltZ := hZ2.lt
  obtain ⟨g, cap, cur, rfl, hgb, hg, hcap, hcs⟩ := own_cells hu (by omega)
  rw [hl] at hcap
  have hsz1 := HB.out.size
  have hsz11 := HB1.out.size
  have hltZ1 := HZ1.out.lt
  have hold : w2.cell? ⟨g, q, none⟩ = some (w16 (l.getD q 0)) := by
    obtain ⟨A, c', e, h⟩ := hu.u16s
    cases e
    obtain ⟨a, e, h⟩ := h q (l.getD q 0) (by rw [List.getD_eq_getElem?_getD, List.getElem?_eq_getElem (by omega)]; rfl)
    cases e
    rwa [addr_add0] at h
  have hfr : w2.frozen? ⟨g, q, none⟩ = false := frozen_of_row w2 g q cur _ hg
  have hset : ∀ k, k ≠ g → (w2.setCell ⟨g, q, none⟩ (w16 c)).heap[k]? = w2.heap[k]? := fun k hk => heap_setCell_other _ _ _ _ (by simpa using hk)
  have hU3 := own_set hu hg q c (by omega)
  rw [hl] at hU3
  have hX3 : InoAt (w2.setCell ⟨g, q, none⟩ (w16 c)) (w.heap.size + 1) x := (hset _ (by omega)).trans hX2
  have hG3 : GeoAt (w2.setCell ⟨g, q, none⟩ (w16 c)) w.heap.size G.i G.b G.j := (hset _ (by omega)).trans hG2
  have hZ3 : InoAt (w2.setCell ⟨g, q, none⟩ (w16 c)) (w.heap.size + 1 + 1) Im.nought := (hset _ (by omega)).trans hZ2
  have HX3 := Lib.hid hX3
  have HZ3 := Lib.hid hZ3
  have HU3 := Lib.hid hU3
  have HB3 := Lib.hid ((HW1.out.trans (hb.mono HW1.out.size)).setCell (p := ⟨g, q, none⟩) (by show w.heap.size ≤ g; omega) (w16 c))
  obtain ⟨g0, g1, g2, x0, x1, x2, x3, x4, x5, x6, x7⟩ := Boxes.of hG3 hX3
  have hq0 : (0 : Int) ≤ (q : Int) := by omega
  have hq32 : (q : Int) < 32 := by omega
  generalize l.getD q 0 = old at hold
  clear hb hG2 hX2 hZ2 hX3 hG3 hZ3 hset hU3 hu hg hcs
  rw [hl]
  go_wp2_with fail
  generalize (w2.setCell ⟨g, q, none⟩ (w16 c)) = w5 at *
  refine (HT.out _ _ HB3.out HU3.out).mono ?_
  rintro e w6 ⟨rfl, hq6, ho6⟩
  have hX6 : InoAt w6 (w.heap.size + 1) x := (ho6.block _ HX3.out.lt (by omega)).trans HX3.out
  have hZ6 : InoAt w6 (w.heap.size + 1 + 1) Im.nought := (ho6.block _ HZ3.out.lt (by omega)).trans HZ3.out
  have hlt5 := HZ3.out.lt
  have hle5 := HB3.out.size
  have ho0 : Only (fun k => k = m0) w w6 := (Only.of_below (S := fun k => k = m0) HB3.out).trans ho6 fun k hk => .inl hk
  obtain ⟨x0, x1, x2, x3, x4, x5, x6, x7⟩ := Boxes.cells hX6
  have HO := Lib.hid ho0
  have HQ6 := Lib.hid hq6
  have HZ6 := Lib.hid hZ6
  clear ho0 ho6 hq6 hX6 hZ6 hold hfr
  by_cases hr : e0 = 0
  · obtain ⟨w7, hs, hz7, ho7, hb7⟩ := ino_store HZ6.out x
    have HZ7 := Lib.hid hz7
    have HQ7 := Lib.hid (HQ.out _ w6 w7 hle5 HQ6.out fun k hk => ho7 k (by omega))
    have HO7 := Lib.hid (HO.out.trans ⟨(hb7 0 (Nat.zero_le _)).os, (hb7 0 (Nat.zero_le _)).tape, (hb7 0 (Nat.zero_le _)).output, (hb7 0 (Nat.zero_le _)).size, fun k _ hn => ho7 k hn⟩ (S' := fun k => k = w.heap.size + 1 + 1) fun k hk => .inr (by omega))
    have HR0 := Lib.hid hr
    have hne : (e0 != 0) = false := by simpa using hr
    clear hz7 ho7 hb7 hr
    go_wp2_with fail
    refine bodyPost_ret (v := .tuple #[x.v, .int .i64 e0]) ?_ rfl ⟨x, rfl, fun _ => rfl, fun h => absurd HR0.out h, HQ7.out, HO7.out⟩
    rw [HR0.out]
    exact results_row_tmp (p := 10) (q := 11) rfl _ _ (w.heap.size + 1 + 1) _ rfl (ino_var HZ7.out)
  · obtain ⟨w7, hs, hz7, ho7, hb7⟩ := ino_store HZ6.out Im.nought
    have hs7 : (inoStore (.pointer (some ⟨w.heap.size + 1 + 1, 0, none⟩)) (.agg #[.int .u8 0, .int .u16 0, .int .u32 0, .int .u16 0, .int .u16 0, .int .u16 0, .int .u16 0, .int .u16 0])).run Tryz.prog w6 = .ok () w7 := hs
    have HZ7 := Lib.hid hz7
    have HQ7 := Lib.hid (HQ.out _ w6 w7 hle5 HQ6.out fun k hk => ho7 k (by omega))
    have HO7 := Lib.hid (HO.out.trans ⟨(hb7 0 (Nat.zero_le _)).os, (hb7 0 (Nat.zero_le _)).tape, (hb7 0 (Nat.zero_le _)).output, (hb7 0 (Nat.zero_le _)).size, fun k _ hn => ho7 k hn⟩ (S' := fun k => k = w.heap.size + 1 + 1) fun k hk => .inr (by omega))
    have HR0 := Lib.hid hr
    have hne : (e0 != 0) = true := by simpa using hr
    clear hz7 ho7 hb7 hr hs
    go_wp2_with fail
    refine bodyPost_ret (v := .tuple #[Im.nought.v, .int .i64 e0]) ?_ rfl ⟨Im.nought, rfl, fun h => absurd h HR0.out, fun _ => rfl, HQ7.out, HO7.out⟩
    exact results_row_tmp (p := 10) (q := 11) rfl _ _ (w.heap.size + 1 + 1) _ rfl (ino_var HZ7.out)
end Go.Proofs.YtdddennhdbmolaaGreat
