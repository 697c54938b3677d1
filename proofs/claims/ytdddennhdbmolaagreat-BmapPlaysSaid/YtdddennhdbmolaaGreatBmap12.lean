/- Layer 9 (bmap): Needs; Set. Written by tools/genbmap12.py. -/
import Derived.Test.YtdddennhdbmolaaGreatBmap11
namespace Go.Proofs.YtdddennhdbmolaaGreat
open Go.RowKit Go.Maps Go.Lib
set_option linter.unusedVariables false
set_option linter.unusedSimpArgs false
set_option maxRecDepth 10000
theorem needs_any (x : Im) (p : Int) (w : World) : Calls Tryz.prog 20 #[x.v, .int .i64 p] w fun e w' => e = .returned (.bool (decide (4 ≤ p ∧ p < 36 ∧ x.i = 0))) ∧ Below w.heap.size w w' := by
  obtain ⟨m, hm⟩ : ∃ m, m = decide (0 ≤ p ∧ p < 36) := ⟨_, rfl⟩
  have hI := fun V => isPage_any p V
  rw [← hm] at hI
  have HI := Lib.hid hI
  obtain ⟨r, hr⟩ : ∃ r, r = decide (4 ≤ p ∧ p < 36 ∧ x.i = 0) := ⟨_, rfl⟩
  rw [← hr]
  clear hI
  cases m
  · have : r = false := by rw [hr, decide_eq_false]; have := (decide_eq_false_iff_not.1 hm.symm); omega
    subst this
    clear hm hr
    go_enter Tryz.func20, Tryz.ntmps20
    go_wp2_with fail
    refine (HI.out _).mono ?_
    rintro e w1 ⟨rfl, rfl⟩
    go_wp2_with fail
    go_ret
    exact ⟨rfl, (Below.refl _ _).alloc (Nat.le_refl _) _⟩
  · have h36 := of_decide_eq_true hm.symm
    by_cases h4 : 4 ≤ p
    · have h4d : decide (4 ≤ p) = true := decide_eq_true h4
      have hrr : ((x.i : Int) == 0) = r := by
        rw [hr, Bool.eq_iff_iff, decide_eq_true_iff, beq_iff_eq]; omega
      clear hm hr h36 h4
      go_enter Tryz.func20, Tryz.ntmps20
      go_wp2_with fail
      refine (HI.out _).mono ?_
      rintro e w1 ⟨rfl, rfl⟩
      go_wp2_with fail
      go_ret
      exact ⟨rfl, (Below.refl _ _).alloc (Nat.le_refl _) _⟩
    · have h4d : decide (4 ≤ p) = false := decide_eq_false h4
      have : r = false := by rw [hr, decide_eq_false]; omega
      subst this
      clear hm hr h36 h4
      go_enter Tryz.func20, Tryz.ntmps20
      go_wp2_with fail
      refine (HI.out _).mono ?_
      rintro e w1 ⟨rfl, rfl⟩
      go_wp2_with fail
      go_ret
      exact ⟨rfl, (Below.refl _ _).alloc (Nat.le_refl _) _⟩
/-- The store of an inode: the walk doesn't open it. -/
def inoStore (x v : Value) : Sem Unit := Instr.storeAt 28 x v
theorem ino_store_fold (x v : Value) : Instr.storeAt 28 x v = inoStore x v := rfl
attribute [local go_sem ↓] ino_store_fold
theorem ino_store {W : World} {g : Nat} {y : Im} (h : InoAt W g y) (x : Im) :
    ∃ W', (inoStore (.pointer (some ⟨g, 0, none⟩)) x.v).run Tryz.prog W = .ok () W' ∧ InoAt W' g x ∧ (∀ k, k ≠ g → W'.heap[k]? = W.heap[k]?) ∧ ∀ n, n ≤ g → Below n W W' := by
  have hst := run_storeCells_row (P := Tryz.prog) W g 28 _ [.int .u8 x.k, w16 x.n, .int .u32 x.z, w16 x.d0, w16 x.d1, w16 x.d2, w16 x.d3, w16 x.i] h rfl (by simp [Value.oneCell'])
  have sz := Tryz.sizeOf28
  refine ⟨_, ?_, setRow_heap W g _ _ _ _ h, fun k hk => ?_, fun n hn => below_setRow (Below.refl _ _) g hn _⟩
  · unfold inoStore
    simp only [Instr.storeAt, Instr.sureAddr, Sem.run_bind, Sem.run_pure, Result.andThen_ok]
    unfold storeVar
    simp only [Sem.run_bind, sz, Result.andThen_ok, Value.cells]
    simpa using hst
  · simp only [World.setRow, Array.getElem?_modify]
    rw [if_neg (fun e => hk e.symm)]
theorem Boxes.cells {W : World} {h : Nat} {x : Im} (hx : InoAt W h x) : W.cell? ⟨h, 0, none⟩ = some (.int .u8 x.k) ∧ W.cell? ⟨h, 1, none⟩ = some (w16 x.n) ∧ W.cell? ⟨h, 2, none⟩ = some (.int .u32 x.z) ∧ W.cell? ⟨h, 3, none⟩ = some (w16 x.d0) ∧ W.cell? ⟨h, 4, none⟩ = some (w16 x.d1) ∧ W.cell? ⟨h, 5, none⟩ = some (w16 x.d2) ∧ W.cell? ⟨h, 6, none⟩ = some (w16 x.d3) ∧ W.cell? ⟨h, 7, none⟩ = some (w16 x.i) :=
  ⟨cell_of_row W h 0 _ _ _ hx, cell_of_row W h 1 _ _ _ hx, cell_of_row W h 2 _ _ _ hx, cell_of_row W h 3 _ _ _ hx, cell_of_row W h 4 _ _ _ hx, cell_of_row W h 5 _ _ _ hx, cell_of_row W h 6 _ _ _ hx, cell_of_row W h 7 _ _ _ hx⟩
theorem ino_var {W : World} {g : Nat} {x : Im} (h : InoAt W g x) : (loadVar 28 ⟨g, 0, none⟩).run Tryz.prog W = .ok x.v W :=
  run_loadVar_row W g 28 28 _ (0, 0) _ h Tryz.underlying28 rfl (by kernel_rfl)
/-- The boxes of a geometry and an inode, and the result's. -/
theorem box_giz (w : World) (i b j : Int) (x : Im) :
    GeoAt (((w.alloc (.cells #[.int .i64 i, .int .i64 b, .int .i64 j] 23)).alloc (.cells #[.int .u8 x.k, w16 x.n, .int .u32 x.z, w16 x.d0, w16 x.d1, w16 x.d2, w16 x.d3, w16 x.i] 28)).alloc (.cells #[.int .u8 0, .int .u16 0, .int .u32 0, .int .u16 0, .int .u16 0, .int .u16 0, .int .u16 0, .int .u16 0] 28)) w.heap.size i b j ∧ InoAt (((w.alloc (.cells #[.int .i64 i, .int .i64 b, .int .i64 j] 23)).alloc (.cells #[.int .u8 x.k, w16 x.n, .int .u32 x.z, w16 x.d0, w16 x.d1, w16 x.d2, w16 x.d3, w16 x.i] 28)).alloc (.cells #[.int .u8 0, .int .u16 0, .int .u32 0, .int .u16 0, .int .u16 0, .int .u16 0, .int .u16 0, .int .u16 0] 28)) (w.heap.size + 1) x ∧ InoAt (((w.alloc (.cells #[.int .i64 i, .int .i64 b, .int .i64 j] 23)).alloc (.cells #[.int .u8 x.k, w16 x.n, .int .u32 x.z, w16 x.d0, w16 x.d1, w16 x.d2, w16 x.d3, w16 x.i] 28)).alloc (.cells #[.int .u8 0, .int .u16 0, .int .u32 0, .int .u16 0, .int .u16 0, .int .u16 0, .int .u16 0, .int .u16 0] 28)) (w.heap.size + 1 + 1) Im.nought ∧ Below w.heap.size w (((w.alloc (.cells #[.int .i64 i, .int .i64 b, .int .i64 j] 23)).alloc (.cells #[.int .u8 x.k, w16 x.n, .int .u32 x.z, w16 x.d0, w16 x.d1, w16 x.d2, w16 x.d3, w16 x.i] 28)).alloc (.cells #[.int .u8 0, .int .u16 0, .int .u32 0, .int .u16 0, .int .u16 0, .int .u16 0, .int .u16 0, .int .u16 0] 28)) := by
  obtain ⟨h1, h2, h3⟩ := box_gi w i b j x
  have hs : ((w.alloc (.cells #[.int .i64 i, .int .i64 b, .int .i64 j] 23)).alloc (.cells #[.int .u8 x.k, w16 x.n, .int .u32 x.z, w16 x.d0, w16 x.d1, w16 x.d2, w16 x.d3, w16 x.i] 28)).heap.size = w.heap.size + 1 + 1 := by simp
  have h4 := heap_alloc_new ((w.alloc (.cells #[.int .i64 i, .int .i64 b, .int .i64 j] 23)).alloc (.cells #[.int .u8 x.k, w16 x.n, .int .u32 x.z, w16 x.d0, w16 x.d1, w16 x.d2, w16 x.d3, w16 x.i] 28)) (.cells #[.int .u8 0, .int .u16 0, .int .u32 0, .int .u16 0, .int .u16 0, .int .u16 0, .int .u16 0, .int .u16 0] 28)
  generalize ((w.alloc (.cells #[.int .i64 i, .int .i64 b, .int .i64 j] 23)).alloc (.cells #[.int .u8 x.k, w16 x.n, .int .u32 x.z, w16 x.d0, w16 x.d1, w16 x.d2, w16 x.d3, w16 x.i] 28)) = V at *
  have hb : Below V.heap.size V (V.alloc (.cells #[.int .u8 0, .int .u16 0, .int .u32 0, .int .u16 0, .int .u16 0, .int .u16 0, .int .u16 0, .int .u16 0] 28)) := (Below.refl _ _).alloc (Nat.le_refl _) _
  refine ⟨h1.below hb, h2.below hb (by omega), by rw [hs] at h4; exact h4, h3.trans (hb.mono h3.size)⟩
/-- The direct block of a page set. -/
def Im.setDir (x : Im) (p c : Nat) : Im :=
  match p with
  | 0 => { x with d0 := c }
  | 1 => { x with d1 := c }
  | 2 => { x with d2 := c }
  | _ => { x with d3 := c }
set_option maxHeartbeats 2000000 in
theorem set_no (t : Option Addr) (i b j : Int) (x : Im) (p : Int) (c : Nat) (r : Int) (hr : r ≠ 0) (w : World) (hN : ∀ V g, V.heap[g]? = some (.cells #[w16 c] 24 (0, 0)) → Calls Tryz.prog 25 #[.pointer t, geoV i b j, x.v, .bool (decide (0 ≤ p ∧ p < 36)), .slice (some ⟨g, 0, none⟩) 1 1] V fun e w' => e = .returned (.int .i64 r) ∧ Below V.heap.size V w') :
    Calls Tryz.prog 10 #[.pointer t, geoV i b j, x.v, .int .i64 p, w16 c] w fun e w' => e = .returned (.tuple #[Im.nought.v, .int .i64 r]) ∧ Below w.heap.size w w' := by
  obtain ⟨hG, hX, hZ, hB⟩ := box_giz w i b j x
  generalize hW : (((w.alloc (.cells #[.int .i64 i, .int .i64 b, .int .i64 j] 23)).alloc (.cells #[.int .u8 x.k, w16 x.n, .int .u32 x.z, w16 x.d0, w16 x.d1, w16 x.d2, w16 x.d3, w16 x.i] 28)).alloc (.cells #[.int .u8 0, .int .u16 0, .int .u32 0, .int .u16 0, .int .u16 0, .int .u16 0, .int .u16 0, .int .u16 0] 28)) = W0 at *
  obtain ⟨g0, g1, g2, x0, x1, x2, x3, x4, x5, x6, x7⟩ := Boxes.of hG hX
  have HG := Lib.hid hG
  have HX := Lib.hid hX
  have HZ := Lib.hid hZ
  have HB := Lib.hid hB
  have HI := Lib.hid fun V => isPage_any p V
  have hcc : (W0.alloc (.cells #[w16 c] 24)).heap[W0.heap.size]? = some (.cells #[w16 c] 24 (0, 0)) := heap_alloc_new W0 _
  have HN := Lib.hid (fun V (hV : Below (W0.alloc (.cells #[w16 c] 24)).heap.size (W0.alloc (.cells #[w16 c] 24)) V) => hN V W0.heap.size ((hV.block _ (by simp)).trans hcc))
  have hbc : Below W0.heap.size W0 (W0.alloc (.cells #[w16 c] 24)) := (Below.refl _ _).alloc (Nat.le_refl _) _
  have HBC := Lib.hid hbc
  generalize decide (0 ≤ p ∧ p < 36) = m at HI HN
  have HW := Lib.hid hW
  clear hW hG hX hZ hB hN hcc hbc
  have hne : (r != 0) = true := by simpa using hr
  clear hr
  go_enter Tryz.func10, Tryz.ntmps10
  go_wp2_with fail
  rw [HW.out]
  clear HW
  go_region_held3 (fun W' => W'.cell? ⟨w.heap.size, 0, none⟩ = some (.int .i64 i) ∧ W'.cell? ⟨w.heap.size, 1, none⟩ = some (.int .i64 b) ∧ W'.cell? ⟨w.heap.size, 2, none⟩ = some (.int .i64 j) ∧ W'.cell? ⟨w.heap.size + 1, 0, none⟩ = some (.int .u8 x.k) ∧ W'.cell? ⟨w.heap.size + 1, 1, none⟩ = some (w16 x.n) ∧ W'.cell? ⟨w.heap.size + 1, 2, none⟩ = some (.int .u32 x.z) ∧ W'.cell? ⟨w.heap.size + 1, 3, none⟩ = some (w16 x.d0) ∧ W'.cell? ⟨w.heap.size + 1, 4, none⟩ = some (w16 x.d1) ∧ W'.cell? ⟨w.heap.size + 1, 5, none⟩ = some (w16 x.d2) ∧ W'.cell? ⟨w.heap.size + 1, 6, none⟩ = some (w16 x.d3) ∧ W'.cell? ⟨w.heap.size + 1, 7, none⟩ = some (w16 x.i))
    (first | exact ⟨g0, g1, g2, x0, x1, x2, x3, x4, x5, x6, x7⟩ | go_keep)
    (first | (go_at_call 26; ((with_reducible refine (HI.out _).mono ?_); rintro e w1 ⟨rfl, rfl⟩))
           | (go_at_call 25; ((with_reducible refine (HN.out _ (Below.refl _ _).drew).mono ?_); rintro e w1 ⟨rfl, hb⟩; have HB1 := Lib.hid (HBC.out.trans ((below_of_drew hb).mono HBC.out.size)); have HG1 := Lib.hid (HG.out.below HB1.out); have HX1 := Lib.hid (HX.out.below HB1.out HX.out.lt); obtain ⟨g0, g1, g2, x0, x1, x2, x3, x4, x5, x6, x7⟩ := Boxes.of HG1.out HX1.out; have HZ1 := Lib.hid (HZ.out.below HB1.out HZ.out.lt); clear hb)))
  all_goals
    obtain ⟨w2, hs, hz, -, hb2⟩ := ino_store HZ1.out Im.nought
    have hs2 : (inoStore (.pointer (some ⟨w.heap.size + 1 + 1, 0, none⟩)) (.agg #[.int .u8 0, .int .u16 0, .int .u32 0, .int .u16 0, .int .u16 0, .int .u16 0, .int .u16 0, .int .u16 0])).run Tryz.prog w1 = .ok () w2 := hs
    have HZ2 := Lib.hid hz
    have HB2 := Lib.hid ((HB.out.trans (HB1.out.mono HB.out.size)).trans (hb2 _ (by omega)))
    clear hs hz hb2
    go_wp2_with fail
    refine bodyPost_ret (v := .tuple #[Im.nought.v, .int .i64 r]) ?_ rfl ⟨rfl, HB2.out⟩
    exact results_row_tmp (p := 10) (q := 11) rfl _ _ (w.heap.size + 1 + 1) _ rfl (ino_var HZ2.out)
set_option maxHeartbeats 2000000 in
theorem set_none (t : Option Addr) (i b j : Int) (x : Im) (p : Int) (c : Nat) (hd : 4 ≤ p ∧ p < 36 ∧ x.i = 0) (w : World) (hN : ∀ V g, V.heap[g]? = some (.cells #[w16 c] 24 (0, 0)) → Calls Tryz.prog 25 #[.pointer t, geoV i b j, x.v, .bool (decide (0 ≤ p ∧ p < 36)), .slice (some ⟨g, 0, none⟩) 1 1] V fun e w' => e = .returned (.int .i64 0) ∧ Below V.heap.size V w') :
    Calls Tryz.prog 10 #[.pointer t, geoV i b j, x.v, .int .i64 p, w16 c] w fun e w' => e = .returned (.tuple #[Im.nought.v, .int .i64 3]) ∧ Below w.heap.size w w' := by
  obtain ⟨hG, hX, hZ, hB⟩ := box_giz w i b j x
  generalize hW : (((w.alloc (.cells #[.int .i64 i, .int .i64 b, .int .i64 j] 23)).alloc (.cells #[.int .u8 x.k, w16 x.n, .int .u32 x.z, w16 x.d0, w16 x.d1, w16 x.d2, w16 x.d3, w16 x.i] 28)).alloc (.cells #[.int .u8 0, .int .u16 0, .int .u32 0, .int .u16 0, .int .u16 0, .int .u16 0, .int .u16 0, .int .u16 0] 28)) = W0 at *
  obtain ⟨g0, g1, g2, x0, x1, x2, x3, x4, x5, x6, x7⟩ := Boxes.of hG hX
  have HG := Lib.hid hG
  have HX := Lib.hid hX
  have HZ := Lib.hid hZ
  have HB := Lib.hid hB
  have HI := Lib.hid fun V => isPage_any p V
  have hcc : (W0.alloc (.cells #[w16 c] 24)).heap[W0.heap.size]? = some (.cells #[w16 c] 24 (0, 0)) := heap_alloc_new W0 _
  have HN := Lib.hid (fun V (hV : Below (W0.alloc (.cells #[w16 c] 24)).heap.size (W0.alloc (.cells #[w16 c] 24)) V) => hN V W0.heap.size ((hV.block _ (by simp)).trans hcc))
  have hbc : Below W0.heap.size W0 (W0.alloc (.cells #[w16 c] 24)) := (Below.refl _ _).alloc (Nat.le_refl _) _
  have HBC := Lib.hid hbc
  generalize decide (0 ≤ p ∧ p < 36) = m at HI HN
  have HW := Lib.hid hW
  clear hW hG hX hZ hB hN hcc hbc
  have hnd := fun V => needs_any x p V
  rw [decide_eq_true hd] at hnd
  have HNd := Lib.hid hnd
  clear hnd hd
  go_enter Tryz.func10, Tryz.ntmps10
  go_wp2_with fail
  rw [HW.out]
  clear HW
  go_region_held3 (fun W' => W'.cell? ⟨w.heap.size, 0, none⟩ = some (.int .i64 i) ∧ W'.cell? ⟨w.heap.size, 1, none⟩ = some (.int .i64 b) ∧ W'.cell? ⟨w.heap.size, 2, none⟩ = some (.int .i64 j) ∧ W'.cell? ⟨w.heap.size + 1, 0, none⟩ = some (.int .u8 x.k) ∧ W'.cell? ⟨w.heap.size + 1, 1, none⟩ = some (w16 x.n) ∧ W'.cell? ⟨w.heap.size + 1, 2, none⟩ = some (.int .u32 x.z) ∧ W'.cell? ⟨w.heap.size + 1, 3, none⟩ = some (w16 x.d0) ∧ W'.cell? ⟨w.heap.size + 1, 4, none⟩ = some (w16 x.d1) ∧ W'.cell? ⟨w.heap.size + 1, 5, none⟩ = some (w16 x.d2) ∧ W'.cell? ⟨w.heap.size + 1, 6, none⟩ = some (w16 x.d3) ∧ W'.cell? ⟨w.heap.size + 1, 7, none⟩ = some (w16 x.i))
    (first | exact ⟨g0, g1, g2, x0, x1, x2, x3, x4, x5, x6, x7⟩ | go_keep)
    (first | (go_at_call 26; ((with_reducible refine (HI.out _).mono ?_); rintro e w1 ⟨rfl, rfl⟩))
           | (go_at_call 25; ((with_reducible refine (HN.out _ (Below.refl _ _).drew).mono ?_); rintro e w1 ⟨rfl, hb⟩; have HB1 := Lib.hid (HBC.out.trans ((below_of_drew hb).mono HBC.out.size)); have HG1 := Lib.hid (HG.out.below HB1.out); have HX1 := Lib.hid (HX.out.below HB1.out HX.out.lt); obtain ⟨g0, g1, g2, x0, x1, x2, x3, x4, x5, x6, x7⟩ := Boxes.of HG1.out HX1.out; have HZ1 := Lib.hid (HZ.out.below HB1.out HZ.out.lt); clear hb)))
  all_goals
    go_wp2_with fail
    refine (HNd.out _).mono ?_
    rintro e w2 ⟨rfl, hb⟩
    have HB2 := Lib.hid ((HB.out.trans (HB1.out.mono HB.out.size)).trans (hb.mono (Nat.le_trans HB.out.size HB1.out.size)))
    obtain ⟨w3, hs, hz, -, hb3⟩ := ino_store (HZ1.out.below hb HZ1.out.lt) Im.nought
    have hs3 : (inoStore (.pointer (some ⟨w.heap.size + 1 + 1, 0, none⟩)) (.agg #[.int .u8 0, .int .u16 0, .int .u32 0, .int .u16 0, .int .u16 0, .int .u16 0, .int .u16 0, .int .u16 0])).run Tryz.prog w2 = .ok () w3 := hs
    have HZ3 := Lib.hid hz
    have HB3 := Lib.hid (HB2.out.trans (hb3 _ (by omega)))
    clear hs hz hb3 hb
    go_wp2_with fail
    refine bodyPost_ret (v := .tuple #[Im.nought.v, .int .i64 3]) ?_ rfl ⟨rfl, HB3.out⟩
    exact results_row_tmp (p := 10) (q := 11) rfl _ _ (w.heap.size + 1 + 1) _ rfl (ino_var HZ3.out)
theorem setDir_cells {W : World} {h : Nat} {x : Im} (hx : InoAt W h x) (p c : Nat) (hp : p < 4) : InoAt (W.setCell ⟨h, 3 + p, none⟩ (w16 c)) h (x.setDir p c) := by
  unfold InoAt at hx ⊢
  rw [heap_setCell_same W h (3 + p) _ _ _ hx]
  match p, hp with
  | 0, _ => rfl
  | 1, _ => rfl
  | 2, _ => rfl
  | 3, _ => rfl
theorem dir_cell {W : World} {h : Nat} {x : Im} (hx : InoAt W h x) (p : Nat) (hp : p < 4) : W.cell? ⟨h, 3 + p, none⟩ = some (w16 (x.dir.getD p 0)) := by
  rw [cell_of_row W h (3 + p) _ _ (0, 0) hx]
  match p, hp with
  | 0, _ => rfl
  | 1, _ => rfl
  | 2, _ => rfl
  | 3, _ => rfl
set_option maxHeartbeats 4000000 in
theorem set_dir (t : Option Addr) (i b j : Int) (x : Im) (p : Nat) (c : Nat) (hp : p < 4) (w : World) (hN : ∀ V g, V.heap[g]? = some (.cells #[w16 c] 24 (0, 0)) → Calls Tryz.prog 25 #[.pointer t, geoV i b j, x.v, .bool (decide (0 ≤ (p : Int) ∧ (p : Int) < 36)), .slice (some ⟨g, 0, none⟩) 1 1] V fun e w' => e = .returned (.int .i64 0) ∧ Below V.heap.size V w') :
    Calls Tryz.prog 10 #[.pointer t, geoV i b j, x.v, .int .i64 (p : Int), w16 c] w fun e w' => e = .returned (.tuple #[(x.setDir p c).v, .int .i64 0]) ∧ Below w.heap.size w w' := by
  obtain ⟨hG, hX, hZ, hB⟩ := box_giz w i b j x
  generalize hW : (((w.alloc (.cells #[.int .i64 i, .int .i64 b, .int .i64 j] 23)).alloc (.cells #[.int .u8 x.k, w16 x.n, .int .u32 x.z, w16 x.d0, w16 x.d1, w16 x.d2, w16 x.d3, w16 x.i] 28)).alloc (.cells #[.int .u8 0, .int .u16 0, .int .u32 0, .int .u16 0, .int .u16 0, .int .u16 0, .int .u16 0, .int .u16 0] 28)) = W0 at *
  obtain ⟨g0, g1, g2, x0, x1, x2, x3, x4, x5, x6, x7⟩ := Boxes.of hG hX
  have HG := Lib.hid hG
  have HX := Lib.hid hX
  have HZ := Lib.hid hZ
  have HB := Lib.hid hB
  have HI := Lib.hid fun V => isPage_any (p : Int) V
  have hcc : (W0.alloc (.cells #[w16 c] 24)).heap[W0.heap.size]? = some (.cells #[w16 c] 24 (0, 0)) := heap_alloc_new W0 _
  have HN := Lib.hid (fun V (hV : Below (W0.alloc (.cells #[w16 c] 24)).heap.size (W0.alloc (.cells #[w16 c] 24)) V) => hN V W0.heap.size ((hV.block _ (by simp)).trans hcc))
  have hbc : Below W0.heap.size W0 (W0.alloc (.cells #[w16 c] 24)) := (Below.refl _ _).alloc (Nat.le_refl _) _
  have HBC := Lib.hid hbc
  generalize decide (0 ≤ (p : Int) ∧ (p : Int) < 36) = m at HI HN
  have HW := Lib.hid hW
  clear hW hG hX hZ hB hN hcc hbc
  have hnd := fun V => needs_any x (p : Int) V
  rw [decide_eq_false (show ¬ (4 ≤ (p : Int) ∧ (p : Int) < 36 ∧ x.i = 0) by omega)] at hnd
  have HNd := Lib.hid hnd
  clear hnd
  go_enter Tryz.func10, Tryz.ntmps10
  go_wp2_with fail
  rw [HW.out]
  clear HW
  go_region_held3 (fun W' => W'.cell? ⟨w.heap.size, 0, none⟩ = some (.int .i64 i) ∧ W'.cell? ⟨w.heap.size, 1, none⟩ = some (.int .i64 b) ∧ W'.cell? ⟨w.heap.size, 2, none⟩ = some (.int .i64 j) ∧ W'.cell? ⟨w.heap.size + 1, 0, none⟩ = some (.int .u8 x.k) ∧ W'.cell? ⟨w.heap.size + 1, 1, none⟩ = some (w16 x.n) ∧ W'.cell? ⟨w.heap.size + 1, 2, none⟩ = some (.int .u32 x.z) ∧ W'.cell? ⟨w.heap.size + 1, 3, none⟩ = some (w16 x.d0) ∧ W'.cell? ⟨w.heap.size + 1, 4, none⟩ = some (w16 x.d1) ∧ W'.cell? ⟨w.heap.size + 1, 5, none⟩ = some (w16 x.d2) ∧ W'.cell? ⟨w.heap.size + 1, 6, none⟩ = some (w16 x.d3) ∧ W'.cell? ⟨w.heap.size + 1, 7, none⟩ = some (w16 x.i))
    (first | exact ⟨g0, g1, g2, x0, x1, x2, x3, x4, x5, x6, x7⟩ | go_keep)
    (first | (go_at_call 26; ((with_reducible refine (HI.out _).mono ?_); rintro e w1 ⟨rfl, rfl⟩))
           | (go_at_call 25; ((with_reducible refine (HN.out _ (Below.refl _ _).drew).mono ?_); rintro e w1 ⟨rfl, hb⟩; have HB1 := Lib.hid (HBC.out.trans ((below_of_drew hb).mono HBC.out.size)); have HG1 := Lib.hid (HG.out.below HB1.out); have HX1 := Lib.hid (HX.out.below HB1.out HX.out.lt); obtain ⟨g0, g1, g2, x0, x1, x2, x3, x4, x5, x6, x7⟩ := Boxes.of HG1.out HX1.out; have HZ1 := Lib.hid (HZ.out.below HB1.out HZ.out.lt); clear hb)))
  all_goals
    go_wp2_with fail
    refine (HNd.out _).mono ?_
    rintro e w2 ⟨rfl, hb⟩
    have HB2 := Lib.hid ((HB.out.trans (HB1.out.mono HB.out.size)).trans (hb.mono (Nat.le_trans HB.out.size HB1.out.size)))
    have hsz2 := HB2.out.size
    have HX2 := Lib.hid (HX1.out.below hb HX1.out.lt)
    have HZ2 := Lib.hid (HZ1.out.below hb HZ1.out.lt)
    have hlt2 := HX2.out.lt
    have hXs := setDir_cells HX2.out p c hp
    have hZs : InoAt (w2.setCell ⟨w.heap.size + 1, 3 + p, none⟩ (w16 c)) (w.heap.size + 1 + 1) Im.nought := (heap_setCell_other _ _ _ _ (by simp)).trans HZ2.out
    obtain ⟨w3, hs, hz, -, hb3⟩ := ino_store hZs (x.setDir p c)
    obtain ⟨x0, x1, x2, x3, x4, x5, x6, x7⟩ := Boxes.cells hXs
    have hv0 := dir_cell HX2.out p hp
    have hfr : w2.frozen? ⟨w.heap.size + 1, 3 + p, none⟩ = false := frozen_of_row w2 _ _ _ _ HX2.out
    have HZ3 := Lib.hid hz
    have HB3 := Lib.hid ((HB2.out.setCell (p := ⟨w.heap.size + 1, 3 + p, none⟩) (by simp) (w16 c)).trans (hb3 _ (by omega)))
    have hpi : (p : Int) < 4 := by omega
    clear hz hb3 hb hXs hZs
    generalize x.dir.getD p 0 = old at hv0
    generalize hx' : x.setDir p c = x' at *
    have HX' := Lib.hid hx'
    clear hx'
    go_wp2_with fail
    refine bodyPost_ret (v := .tuple #[x'.v, .int .i64 0]) ?_ rfl ⟨by rw [HX'.out], HB3.out⟩
    exact results_row_tmp (p := 10) (q := 11) rfl _ _ (w.heap.size + 1 + 1) _ rfl (ino_var HZ3.out)
theorem set_lis {W : World} {g : Nat} {l : List Nat} (h : LisAt W g l) (q c : Nat) : LisAt (W.setCell ⟨g, q, none⟩ (w16 c)) g (l.set q c) := by
  refine ⟨?_, by rw [List.length_set]; exact h.2⟩
  rw [heap_setCell_same W g q _ _ _ h.1]
  congr 2
  simp [List.map_set]
set_option maxHeartbeats 4000000 in
theorem set_ind (t : Option Addr) (i b j : Int) (x : Im) (q : Nat) (hq : q < 32) (p : Int) (hp : p = (q : Int) + 4) (c : Nat) (hi : x.i ≠ 0) (l : List Nat) (hl : l.length = 32) (r : Int) (w : World) (m0 : Nat) (hm : m0 < w.heap.size) (Q : World → Prop) (hQ : ∀ V V', Q V → (∀ k, k < w.heap.size → V'.heap[k]? = V.heap[k]?) → Q V')
    (hN : ∀ V g, V.heap[g]? = some (.cells #[w16 c] 24 (0, 0)) → Calls Tryz.prog 25 #[.pointer t, geoV i b j, x.v, .bool (decide (0 ≤ p ∧ p < 36)), .slice (some ⟨g, 0, none⟩) 1 1] V fun e w' => e = .returned (.int .i64 0) ∧ Below V.heap.size V w')
    (hR : ∀ V, Below w.heap.size w V → Calls Tryz.prog 27 #[.pointer t, geoV i b j, w16 x.i] V fun e w' => e = .returned (.tuple #[lisV l, .int .i64 0]) ∧ Below V.heap.size V w')
    (hWr : ∀ V, Below w.heap.size w V → Calls Tryz.prog 28 #[.pointer t, geoV i b j, w16 x.i, lisV (l.set q c)] V fun e w' => e = .returned (.int .i64 r) ∧ Q w' ∧ Only (fun k => k = m0) V w') :
    Calls Tryz.prog 10 #[.pointer t, geoV i b j, x.v, .int .i64 p, w16 c] w fun e w' => ∃ y : Im, e = .returned (.tuple #[y.v, .int .i64 r]) ∧ (r = 0 → y = x) ∧ (r ≠ 0 → y = Im.nought) ∧ Q w' ∧ Only (fun k => k = m0) w w' := by
  obtain ⟨hG, hX, hZ, hB⟩ := box_giz w i b j x
  generalize hW : (((w.alloc (.cells #[.int .i64 i, .int .i64 b, .int .i64 j] 23)).alloc (.cells #[.int .u8 x.k, w16 x.n, .int .u32 x.z, w16 x.d0, w16 x.d1, w16 x.d2, w16 x.d3, w16 x.i] 28)).alloc (.cells #[.int .u8 0, .int .u16 0, .int .u32 0, .int .u16 0, .int .u16 0, .int .u16 0, .int .u16 0, .int .u16 0] 28)) = W0 at *
  obtain ⟨g0, g1, g2, x0, x1, x2, x3, x4, x5, x6, x7⟩ := Boxes.of hG hX
  have HG := Lib.hid hG
  have HX := Lib.hid hX
  have HZ := Lib.hid hZ
  have HB := Lib.hid hB
  have HI := Lib.hid fun V => isPage_any p V
  have hcc : (W0.alloc (.cells #[w16 c] 24)).heap[W0.heap.size]? = some (.cells #[w16 c] 24 (0, 0)) := heap_alloc_new W0 _
  have HN := Lib.hid (fun V (hV : Below (W0.alloc (.cells #[w16 c] 24)).heap.size (W0.alloc (.cells #[w16 c] 24)) V) => hN V W0.heap.size ((hV.block _ (by simp)).trans hcc))
  have hbc : Below W0.heap.size W0 (W0.alloc (.cells #[w16 c] 24)) := (Below.refl _ _).alloc (Nat.le_refl _) _
  have HBC := Lib.hid hbc
  generalize decide (0 ≤ p ∧ p < 36) = m at HI HN
  have HW := Lib.hid hW
  clear hW hG hX hZ hB hN hcc hbc
  have hnd := fun V => needs_any x p V
  rw [decide_eq_false (show ¬ (4 ≤ p ∧ p < 36 ∧ x.i = 0) by omega)] at hnd
  have HNd := Lib.hid hnd
  have hsub : p - 4 = (q : Int) := by omega
  have hp4 : decide (p < 4) = false := decide_eq_false (by omega)
  have HR := Lib.hid hR
  have HWr := Lib.hid hWr
  have HQ := Lib.hid hQ
  clear hnd hp hR hWr hQ hi
  go_enter Tryz.func10, Tryz.ntmps10
  go_wp2_with fail
  rw [HW.out]
  clear HW
  go_region_held3 (fun W' => W'.cell? ⟨w.heap.size, 0, none⟩ = some (.int .i64 i) ∧ W'.cell? ⟨w.heap.size, 1, none⟩ = some (.int .i64 b) ∧ W'.cell? ⟨w.heap.size, 2, none⟩ = some (.int .i64 j) ∧ W'.cell? ⟨w.heap.size + 1, 0, none⟩ = some (.int .u8 x.k) ∧ W'.cell? ⟨w.heap.size + 1, 1, none⟩ = some (w16 x.n) ∧ W'.cell? ⟨w.heap.size + 1, 2, none⟩ = some (.int .u32 x.z) ∧ W'.cell? ⟨w.heap.size + 1, 3, none⟩ = some (w16 x.d0) ∧ W'.cell? ⟨w.heap.size + 1, 4, none⟩ = some (w16 x.d1) ∧ W'.cell? ⟨w.heap.size + 1, 5, none⟩ = some (w16 x.d2) ∧ W'.cell? ⟨w.heap.size + 1, 6, none⟩ = some (w16 x.d3) ∧ W'.cell? ⟨w.heap.size + 1, 7, none⟩ = some (w16 x.i))
    (first | exact ⟨g0, g1, g2, x0, x1, x2, x3, x4, x5, x6, x7⟩ | go_keep)
    (first | (go_at_call 26; ((with_reducible refine (HI.out _).mono ?_); rintro e w1 ⟨rfl, rfl⟩))
           | (go_at_call 25; ((with_reducible refine (HN.out _ (Below.refl _ _).drew).mono ?_); rintro e w1 ⟨rfl, hb⟩; have HB1 := Lib.hid (HBC.out.trans ((below_of_drew hb).mono HBC.out.size)); have HG1 := Lib.hid (HG.out.below HB1.out); have HX1 := Lib.hid (HX.out.below HB1.out HX.out.lt); obtain ⟨g0, g1, g2, x0, x1, x2, x3, x4, x5, x6, x7⟩ := Boxes.of HG1.out HX1.out; have HZ1 := Lib.hid (HZ.out.below HB1.out HZ.out.lt); clear hb)))
  all_goals
    go_wp2_with fail
    refine (HNd.out _).mono ?_
    rintro e w2 ⟨rfl, hb⟩
    have HB2 := Lib.hid ((HB.out.trans (HB1.out.mono HB.out.size)).trans (hb.mono (Nat.le_trans HB.out.size HB1.out.size)))
    have HG2 := Lib.hid (HG1.out.below hb)
    have HX2 := Lib.hid (HX1.out.below hb HX1.out.lt)
    have HZ2 := Lib.hid (HZ1.out.below hb HZ1.out.lt)
    obtain ⟨g0, g1, g2, x0, x1, x2, x3, x4, x5, x6, x7⟩ := Boxes.of HG2.out HX2.out
    clear hb
    go_wp2_with fail
    refine (HR.out _ HB2.out).mono ?_
    rintro e w3 ⟨rfl, hb⟩
    have hsz3 := hb.size
    have hX3 := HX2.out.below hb HX2.out.lt
    have hG3 := HG2.out.below hb
    have hZ3 := HZ2.out.below hb HZ2.out.lt
    obtain ⟨Z, w4, hz, hs, hL, hb4⟩ := lis_new w3 l hl
    have hltZ := hZ3.lt
    have hX4 := hX3.below hb4 hX3.lt
    have hG4 := hG3.below hb4
    have hZ4 := hZ3.below hb4 hZ3.lt
    have hold := hL.cell (j := q) (n := l.getD q 0) (by rw [List.getD_eq_getElem?_getD, List.getElem?_eq_getElem (by omega)]; rfl)
    have hfr : w4.frozen? ⟨w3.heap.size, q, none⟩ = false := frozen_of_row w4 _ _ _ _ hL.1
    have hL5 := set_lis hL q c
    have hset : ∀ k, k ≠ w3.heap.size → (w4.setCell ⟨w3.heap.size, q, none⟩ (w16 c)).heap[k]? = w4.heap[k]? := fun k hk => heap_setCell_other _ _ _ _ (by simpa using hk)
    have hX5 : InoAt (w4.setCell ⟨w3.heap.size, q, none⟩ (w16 c)) (w.heap.size + 1) x := (hset _ (by omega)).trans hX4
    have hG5 : GeoAt (w4.setCell ⟨w3.heap.size, q, none⟩ (w16 c)) w.heap.size i b j := (hset _ (by omega)).trans hG4
    have hZ5 : InoAt (w4.setCell ⟨w3.heap.size, q, none⟩ (w16 c)) (w.heap.size + 1 + 1) Im.nought := (hset _ (by omega)).trans hZ4
    have HX5 := Lib.hid hX5
    have HZ5 := Lib.hid hZ5
    have hB4 : Below w.heap.size w w4 := (HB2.out.trans (hb.mono HB2.out.size)).trans (hb4.mono (Nat.le_trans HB2.out.size hsz3))
    have HB5 := Lib.hid (hB4.setCell (p := ⟨w3.heap.size, q, none⟩) (by show w.heap.size ≤ w3.heap.size; exact Nat.le_trans HB2.out.size hsz3) (w16 c))
    have hld := lis_load hL5
    obtain ⟨g0, g1, g2, x0, x1, x2, x3, x4, x5, x6, x7⟩ := Boxes.of hG5 hX5
    have hq0 : (0 : Int) ≤ (q : Int) := by omega
    have hq32 : (q : Int) < 32 := by omega
    generalize l.getD q 0 = old at hold
    clear hb hb4 hX3 hG3 hZ3 hX4 hG4 hZ4 hL hL5 hX5 hG5 hZ5 hB4 hset
    go_wp2_with fail
    generalize (w4.setCell ⟨w3.heap.size, q, none⟩ (w16 c)) = w5 at *
    refine (HWr.out _ HB5.out).mono ?_
    rintro e w6 ⟨rfl, hq6, ho6⟩
    have hX6 : InoAt w6 (w.heap.size + 1) x := (ho6.block _ HX5.out.lt (by omega)).trans HX5.out
    have hZ6 : InoAt w6 (w.heap.size + 1 + 1) Im.nought := (ho6.block _ HZ5.out.lt (by omega)).trans HZ5.out
    have ho0 : Only (fun k => k = m0) w w6 := (Only.of_below (S := fun k => k = m0) HB5.out).trans ho6 fun k hk => .inl hk
    obtain ⟨x0, x1, x2, x3, x4, x5, x6, x7⟩ := Boxes.cells hX6
    have HX6 := Lib.hid hX6
    have HO := Lib.hid ho0
    have HQ6 := Lib.hid hq6
    have HZ6 := Lib.hid hZ6
    clear ho0 ho6 hq6 hX6 hZ6 hs hld hold hfr
    by_cases hr : r = 0
    · obtain ⟨w7, hs, hz7, ho7, hb7⟩ := ino_store HZ6.out x
      have HZ7 := Lib.hid hz7
      have HQ7 := Lib.hid (HQ.out w6 w7 HQ6.out fun k hk => ho7 k (by omega))
      have HO7 := Lib.hid (HO.out.trans ⟨(hb7 0 (Nat.zero_le _)).os, (hb7 0 (Nat.zero_le _)).tape, (hb7 0 (Nat.zero_le _)).output, (hb7 0 (Nat.zero_le _)).size, fun k _ hn => ho7 k hn⟩ (S' := fun k => k = w.heap.size + 1 + 1) fun k hk => .inr (by omega))
      have HR0 := Lib.hid hr
      have hne : (r != 0) = false := by simpa using hr
      clear hz7 ho7 hb7 hr
      go_wp2_with fail
      refine bodyPost_ret (v := .tuple #[x.v, .int .i64 r]) ?_ rfl ⟨x, rfl, fun _ => rfl, fun h => absurd HR0.out h, HQ7.out, HO7.out⟩
      rw [HR0.out]
      exact results_row_tmp (p := 10) (q := 11) rfl _ _ (w.heap.size + 1 + 1) _ rfl (ino_var HZ7.out)
    · obtain ⟨w7, hs, hz7, ho7, hb7⟩ := ino_store HZ6.out Im.nought
      have hs7 : (inoStore (.pointer (some ⟨w.heap.size + 1 + 1, 0, none⟩)) (.agg #[.int .u8 0, .int .u16 0, .int .u32 0, .int .u16 0, .int .u16 0, .int .u16 0, .int .u16 0, .int .u16 0])).run Tryz.prog w6 = .ok () w7 := hs
      have HZ7 := Lib.hid hz7
      have HQ7 := Lib.hid (HQ.out w6 w7 HQ6.out fun k hk => ho7 k (by omega))
      have HO7 := Lib.hid (HO.out.trans ⟨(hb7 0 (Nat.zero_le _)).os, (hb7 0 (Nat.zero_le _)).tape, (hb7 0 (Nat.zero_le _)).output, (hb7 0 (Nat.zero_le _)).size, fun k _ hn => ho7 k hn⟩ (S' := fun k => k = w.heap.size + 1 + 1) fun k hk => .inr (by omega))
      have HR0 := Lib.hid hr
      have hne : (r != 0) = true := by simpa using hr
      clear hz7 ho7 hb7 hr hs
      go_wp2_with fail
      refine bodyPost_ret (v := .tuple #[Im.nought.v, .int .i64 r]) ?_ rfl ⟨Im.nought, rfl, fun h => absurd h HR0.out, fun _ => rfl, HQ7.out, HO7.out⟩
      exact results_row_tmp (p := 10) (q := 11) rfl _ _ (w.heap.size + 1 + 1) _ rfl (ino_var HZ7.out)
end Go.Proofs.YtdddennhdbmolaaGreat
