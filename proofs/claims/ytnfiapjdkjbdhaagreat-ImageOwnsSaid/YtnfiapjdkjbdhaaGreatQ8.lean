import Derived.Test.YtnfiapjdkjbdhaaGreatQ7
namespace Go.Proofs.YtnfiapjdkjbdhaaGreat
open Go.RowKit Go.Maps Go.Lib
set_option linter.unusedVariables false
set_option linter.unusedSimpArgs false
set_option maxRecDepth 10000
theorem box_gi (w : World) (i b j : Int) (x : Im) :
    GeoAt ((w.alloc (.cells #[.int .i64 i, .int .i64 b, .int .i64 j] 23)).alloc (.cells #[.int .u8 x.k, w16 x.n, .int .u32 x.z, w16 x.d0, w16 x.d1, w16 x.d2, w16 x.d3, w16 x.i] 41)) w.heap.size i b j ∧ InoAt ((w.alloc (.cells #[.int .i64 i, .int .i64 b, .int .i64 j] 23)).alloc (.cells #[.int .u8 x.k, w16 x.n, .int .u32 x.z, w16 x.d0, w16 x.d1, w16 x.d2, w16 x.d3, w16 x.i] 41)) (w.heap.size + 1) x ∧ Below w.heap.size w ((w.alloc (.cells #[.int .i64 i, .int .i64 b, .int .i64 j] 23)).alloc (.cells #[.int .u8 x.k, w16 x.n, .int .u32 x.z, w16 x.d0, w16 x.d1, w16 x.d2, w16 x.d3, w16 x.i] 41)) :=
  ⟨(heap_two w _ _).1, (heap_two w _ _).2, ((Below.refl _ w).alloc (Nat.le_refl _) _).alloc (by simp) _⟩
structure Boxes (W : World) (g h : Nat) (i b j : Int) (x : Im) : Prop where
  g0 : W.cell? ⟨g, 0, none⟩ = some (.int .i64 i)
  g1 : W.cell? ⟨g, 1, none⟩ = some (.int .i64 b)
  g2 : W.cell? ⟨g, 2, none⟩ = some (.int .i64 j)
  x0 : W.cell? ⟨h, 0, none⟩ = some (.int .u8 x.k)
  x1 : W.cell? ⟨h, 1, none⟩ = some (w16 x.n)
  x2 : W.cell? ⟨h, 2, none⟩ = some (.int .u32 x.z)
  x3 : W.cell? ⟨h, 3, none⟩ = some (w16 x.d0)
  x4 : W.cell? ⟨h, 4, none⟩ = some (w16 x.d1)
  x5 : W.cell? ⟨h, 5, none⟩ = some (w16 x.d2)
  x6 : W.cell? ⟨h, 6, none⟩ = some (w16 x.d3)
  x7 : W.cell? ⟨h, 7, none⟩ = some (w16 x.i)
theorem Boxes.of {W : World} {g h : Nat} {i b j : Int} {x : Im} (hg : GeoAt W g i b j) (hx : InoAt W h x) : Boxes W g h i b j x :=
  ⟨cell_of_row W g 0 _ _ _ hg, cell_of_row W g 1 _ _ _ hg, cell_of_row W g 2 _ _ _ hg, cell_of_row W h 0 _ _ _ hx, cell_of_row W h 1 _ _ _ hx, cell_of_row W h 2 _ _ _ hx, cell_of_row W h 3 _ _ _ hx, cell_of_row W h 4 _ _ _ hx, cell_of_row W h 5 _ _ _ hx, cell_of_row W h 6 _ _ _ hx, cell_of_row W h 7 _ _ _ hx⟩
theorem u16s_nil (W : World) : U16s W (.slice none 0 0) [] := ⟨none, 0, rfl, fun j n h => by simp at h⟩
theorem lis_new (W : World) (l : List Nat) (hl : l.length = 32) : ∃ Z W', (∀ w, (zeroValue 242).run Tryz.prog w = .ok (.agg (numV Z).toArray) w) ∧ (lisStore (.pointer (some ⟨W.heap.size, 0, none⟩)) (lisV l)).run Tryz.prog (W.alloc (.cells (numV Z).toArray 242)) = .ok () W' ∧ LisAt W' W.heap.size l ∧ Below W.heap.size W W' := by
  obtain ⟨hz, -⟩ := zero_of_info lisInfo2
  obtain ⟨W', h1, h2, -, h3⟩ := lis_store (lis_alloc W (List.replicate 32 0) rfl) hl
  exact ⟨_, W', hz, h1, h2, ((Below.refl _ W).alloc (Nat.le_refl _) _).trans (h3 _ (Nat.le_refl _))⟩
set_option maxHeartbeats 1000000 in
theorem get_no (t : Option Addr) (i b j : Int) (x : Im) (p : Int) (r : Int) (hr : r ≠ 0) (w : World) (hN : ∀ V, Calls Tryz.prog 154 #[.pointer t, geoV i b j, x.v, .bool (decide (0 ≤ p ∧ p < 36)), .slice none 0 0] V fun e w' => e = .returned (.int .i64 r) ∧ Below V.heap.size V w') :
    Calls Tryz.prog 102 #[.pointer t, geoV i b j, x.v, .int .i64 p] w fun e w' => e = .returned (.tuple #[.int .u16 0, .int .i64 r]) ∧ Below w.heap.size w w' := by
  obtain ⟨hG, hX, hB⟩ := box_gi w i b j x
  generalize hW : ((w.alloc (.cells #[.int .i64 i, .int .i64 b, .int .i64 j] 23)).alloc (.cells #[.int .u8 x.k, w16 x.n, .int .u32 x.z, w16 x.d0, w16 x.d1, w16 x.d2, w16 x.d3, w16 x.i] 41)) = W0 at *
  obtain ⟨g0, g1, g2, x0, x1, x2, x3, x4, x5, x6, x7⟩ := Boxes.of hG hX
  have HG := Lib.hid hG
  have HX := Lib.hid hX
  have HB := Lib.hid hB
  have HI := Lib.hid fun V => isPage_any p V
  have HN := Lib.hid hN
  generalize decide (0 ≤ p ∧ p < 36) = m at HI HN
  have HW := Lib.hid hW
  clear hW hG hX hB hN
  have hne : (r != 0) = true := by simpa using hr
  clear hr
  go_enter Tryz.func102, Tryz.ntmps102
  go_wp2_with fail
  rw [HW.out]
  clear HW
  go_region_held3 (fun W' => W'.cell? ⟨w.heap.size, 0, none⟩ = some (.int .i64 i) ∧ W'.cell? ⟨w.heap.size, 1, none⟩ = some (.int .i64 b) ∧ W'.cell? ⟨w.heap.size, 2, none⟩ = some (.int .i64 j) ∧ W'.cell? ⟨w.heap.size + 1, 0, none⟩ = some (.int .u8 x.k) ∧ W'.cell? ⟨w.heap.size + 1, 1, none⟩ = some (w16 x.n) ∧ W'.cell? ⟨w.heap.size + 1, 2, none⟩ = some (.int .u32 x.z) ∧ W'.cell? ⟨w.heap.size + 1, 3, none⟩ = some (w16 x.d0) ∧ W'.cell? ⟨w.heap.size + 1, 4, none⟩ = some (w16 x.d1) ∧ W'.cell? ⟨w.heap.size + 1, 5, none⟩ = some (w16 x.d2) ∧ W'.cell? ⟨w.heap.size + 1, 6, none⟩ = some (w16 x.d3) ∧ W'.cell? ⟨w.heap.size + 1, 7, none⟩ = some (w16 x.i))
    (first | exact ⟨g0, g1, g2, x0, x1, x2, x3, x4, x5, x6, x7⟩ | go_keep)
    (first | (go_at_call 152; ((with_reducible refine (HI.out _).mono ?_); rintro e w1 ⟨rfl, rfl⟩))
           | (go_at_call 154; ((with_reducible refine (HN.out _).mono ?_); rintro e w1 ⟨rfl, hb⟩; have HB1 := Lib.hid (below_of_drew hb); have HG1 := Lib.hid (HG.out.below HB1.out); have HX1 := Lib.hid (HX.out.below HB1.out HX.out.lt); obtain ⟨g0, g1, g2, x0, x1, x2, x3, x4, x5, x6, x7⟩ := Boxes.of HG1.out HX1.out; clear hb)))
  go_wp2_with fail
  go_ret2
  exact ⟨rfl, HB.out.trans (HB1.out.mono HB.out.size)⟩
set_option maxHeartbeats 1000000 in
theorem get_dir (t : Option Addr) (i b j : Int) (x : Im) (p : Nat) (hp : p < 4) (w : World) (hN : ∀ V, Calls Tryz.prog 154 #[.pointer t, geoV i b j, x.v, .bool (decide (0 ≤ (p : Int) ∧ (p : Int) < 36)), .slice none 0 0] V fun e w' => e = .returned (.int .i64 0) ∧ Below V.heap.size V w') :
    Calls Tryz.prog 102 #[.pointer t, geoV i b j, x.v, .int .i64 (p : Int)] w fun e w' => e = .returned (.tuple #[w16 (x.dir.getD p 0), .int .i64 0]) ∧ Below w.heap.size w w' := by
  obtain ⟨hG, hX, hB⟩ := box_gi w i b j x
  generalize hW : ((w.alloc (.cells #[.int .i64 i, .int .i64 b, .int .i64 j] 23)).alloc (.cells #[.int .u8 x.k, w16 x.n, .int .u32 x.z, w16 x.d0, w16 x.d1, w16 x.d2, w16 x.d3, w16 x.i] 41)) = W0 at *
  obtain ⟨g0, g1, g2, x0, x1, x2, x3, x4, x5, x6, x7⟩ := Boxes.of hG hX
  have HG := Lib.hid hG
  have HX := Lib.hid hX
  have HB := Lib.hid hB
  have HI := Lib.hid fun V => isPage_any (p : Int) V
  have HN := Lib.hid hN
  generalize decide (0 ≤ (p : Int) ∧ (p : Int) < 36) = m at HI HN
  have HW := Lib.hid hW
  clear hW hG hX hB hN
  go_enter Tryz.func102, Tryz.ntmps102
  go_wp2_with fail
  rw [HW.out]
  clear HW
  go_region_held3 (fun W' => W'.cell? ⟨w.heap.size, 0, none⟩ = some (.int .i64 i) ∧ W'.cell? ⟨w.heap.size, 1, none⟩ = some (.int .i64 b) ∧ W'.cell? ⟨w.heap.size, 2, none⟩ = some (.int .i64 j) ∧ W'.cell? ⟨w.heap.size + 1, 0, none⟩ = some (.int .u8 x.k) ∧ W'.cell? ⟨w.heap.size + 1, 1, none⟩ = some (w16 x.n) ∧ W'.cell? ⟨w.heap.size + 1, 2, none⟩ = some (.int .u32 x.z) ∧ W'.cell? ⟨w.heap.size + 1, 3, none⟩ = some (w16 x.d0) ∧ W'.cell? ⟨w.heap.size + 1, 4, none⟩ = some (w16 x.d1) ∧ W'.cell? ⟨w.heap.size + 1, 5, none⟩ = some (w16 x.d2) ∧ W'.cell? ⟨w.heap.size + 1, 6, none⟩ = some (w16 x.d3) ∧ W'.cell? ⟨w.heap.size + 1, 7, none⟩ = some (w16 x.i))
    (first | exact ⟨g0, g1, g2, x0, x1, x2, x3, x4, x5, x6, x7⟩ | go_keep)
    (first | (go_at_call 152; ((with_reducible refine (HI.out _).mono ?_); rintro e w1 ⟨rfl, rfl⟩))
           | (go_at_call 154; ((with_reducible refine (HN.out _).mono ?_); rintro e w1 ⟨rfl, hb⟩; have HB1 := Lib.hid (below_of_drew hb); have HG1 := Lib.hid (HG.out.below HB1.out); have HX1 := Lib.hid (HX.out.below HB1.out HX.out.lt); obtain ⟨g0, g1, g2, x0, x1, x2, x3, x4, x5, x6, x7⟩ := Boxes.of HG1.out HX1.out; clear hb)))
  obtain ⟨n, hn⟩ : ∃ n, n = x.dir.getD p 0 := ⟨_, rfl⟩
  have hcell : w1.cell? ⟨w.heap.size + 1, 3 + p, none⟩ = some (w16 n) := by
    rw [hn]
    match p, hp with
    | 0, _ => exact x3
    | 1, _ => exact x4
    | 2, _ => exact x5
    | 3, _ => exact x6
  have HNn := Lib.hid hn
  have hpi : (p : Int) < 4 := by omega
  clear hn
  go_wp2_with fail
  go_ret2
  exact ⟨by rw [← HNn.out]; rfl, HB.out.trans (HB1.out.mono HB.out.size)⟩
set_option maxHeartbeats 1000000 in
theorem get_ind (t : Option Addr) (i b j : Int) (x : Im) (q : Nat) (hq : q < 32) (p : Int) (hp : p = (q : Int) + 4) (l : List Nat) (hl : l.length = 32) (w : World) (hN : ∀ V, Calls Tryz.prog 154 #[.pointer t, geoV i b j, x.v, .bool (decide (0 ≤ p ∧ p < 36)), .slice none 0 0] V fun e w' => e = .returned (.int .i64 0) ∧ Below V.heap.size V w')
    (hR : ∀ V, Below w.heap.size w V → Calls Tryz.prog 156 #[.pointer t, geoV i b j, w16 x.i] V fun e w' => e = .returned (.tuple #[lisV l, .int .i64 0]) ∧ Below V.heap.size V w') :
    Calls Tryz.prog 102 #[.pointer t, geoV i b j, x.v, .int .i64 p] w fun e w' => e = .returned (.tuple #[w16 (l.getD q 0), .int .i64 0]) ∧ Below w.heap.size w w' := by
  obtain ⟨hG, hX, hB⟩ := box_gi w i b j x
  generalize hW : ((w.alloc (.cells #[.int .i64 i, .int .i64 b, .int .i64 j] 23)).alloc (.cells #[.int .u8 x.k, w16 x.n, .int .u32 x.z, w16 x.d0, w16 x.d1, w16 x.d2, w16 x.d3, w16 x.i] 41)) = W0 at *
  obtain ⟨g0, g1, g2, x0, x1, x2, x3, x4, x5, x6, x7⟩ := Boxes.of hG hX
  have HG := Lib.hid hG
  have HX := Lib.hid hX
  have HB := Lib.hid hB
  have HI := Lib.hid fun V => isPage_any p V
  have HN := Lib.hid hN
  generalize decide (0 ≤ p ∧ p < 36) = m at HI HN
  have HW := Lib.hid hW
  clear hW hG hX hB hN
  have hsub : p - 4 = (q : Int) := by omega
  have hp4 : ¬ p < 4 := by omega
  have HR := Lib.hid hR
  clear hR hp
  go_enter Tryz.func102, Tryz.ntmps102
  go_wp2_with fail
  rw [HW.out]
  clear HW
  go_region_held3 (fun W' => W'.cell? ⟨w.heap.size, 0, none⟩ = some (.int .i64 i) ∧ W'.cell? ⟨w.heap.size, 1, none⟩ = some (.int .i64 b) ∧ W'.cell? ⟨w.heap.size, 2, none⟩ = some (.int .i64 j) ∧ W'.cell? ⟨w.heap.size + 1, 0, none⟩ = some (.int .u8 x.k) ∧ W'.cell? ⟨w.heap.size + 1, 1, none⟩ = some (w16 x.n) ∧ W'.cell? ⟨w.heap.size + 1, 2, none⟩ = some (.int .u32 x.z) ∧ W'.cell? ⟨w.heap.size + 1, 3, none⟩ = some (w16 x.d0) ∧ W'.cell? ⟨w.heap.size + 1, 4, none⟩ = some (w16 x.d1) ∧ W'.cell? ⟨w.heap.size + 1, 5, none⟩ = some (w16 x.d2) ∧ W'.cell? ⟨w.heap.size + 1, 6, none⟩ = some (w16 x.d3) ∧ W'.cell? ⟨w.heap.size + 1, 7, none⟩ = some (w16 x.i))
    (first | exact ⟨g0, g1, g2, x0, x1, x2, x3, x4, x5, x6, x7⟩ | go_keep)
    (first | (go_at_call 152; ((with_reducible refine (HI.out _).mono ?_); rintro e w1 ⟨rfl, rfl⟩))
           | (go_at_call 154; ((with_reducible refine (HN.out _).mono ?_); rintro e w1 ⟨rfl, hb⟩; have HB1 := Lib.hid (below_of_drew hb); have HG1 := Lib.hid (HG.out.below HB1.out); have HX1 := Lib.hid (HX.out.below HB1.out HX.out.lt); obtain ⟨g0, g1, g2, x0, x1, x2, x3, x4, x5, x6, x7⟩ := Boxes.of HG1.out HX1.out; clear hb)))
  have HW1 := Lib.hid (HB.out.trans (HB1.out.mono HB.out.size))
  go_wp2_with fail
  refine (HR.out _ HW1.out).mono ?_
  rintro e w2 ⟨rfl, hb⟩
  obtain ⟨Z, w3, hz, hs, hL, hb3⟩ := lis_new w2 l hl
  have hcell := hL.cell (j := q) (n := l.getD q 0) (by rw [List.getD_eq_getElem?_getD, List.getElem?_eq_getElem (by omega)]; rfl)
  have HB3 := Lib.hid ((HW1.out.trans (hb.mono HW1.out.size)).trans (hb3.mono (Nat.le_trans HW1.out.size hb.size)))
  have hq0 : (0 : Int) ≤ (q : Int) := by omega
  have hq32 : (q : Int) < 32 := by omega
  obtain ⟨n, hn⟩ : ∃ n, n = l.getD q 0 := ⟨_, rfl⟩
  rw [← hn] at hcell
  have HNn := Lib.hid hn
  clear hb hb3 hL hn
  go_wp2_with fail
  go_ret2
  exact ⟨by rw [← HNn.out]; rfl, HB3.out⟩
end Go.Proofs.YtnfiapjdkjbdhaaGreat
/- Layer 9 (bmap): Needs; Set. Written by tools/genbmap12.py. -/
namespace Go.Proofs.YtnfiapjdkjbdhaaGreat
open Go.RowKit Go.Maps Go.Lib
set_option linter.unusedVariables false
set_option linter.unusedSimpArgs false
set_option maxRecDepth 10000
theorem needs_any (x : Im) (p : Int) (w : World) : Calls Tryz.prog 97 #[x.v, .int .i64 p] w fun e w' => e = .returned (.bool (decide (4 ≤ p ∧ p < 36 ∧ x.i = 0))) ∧ Below w.heap.size w w' := by
  obtain ⟨m, hm⟩ : ∃ m, m = decide (0 ≤ p ∧ p < 36) := ⟨_, rfl⟩
  have hI := fun V => isPage_any p V
  rw [← hm] at hI
  have HI := Lib.hid hI
  obtain ⟨r, hr⟩ : ∃ r, r = decide (4 ≤ p ∧ p < 36 ∧ x.i = 0) := ⟨_, rfl⟩
  rw [← hr]
  clear hI
  cases m
  · have : r = false := by rw [hr, decide_eq_false]; have := (decide_eq_false_iff_not.1 hm.symm); omega
    subst this
    clear hm hr
    go_enter Tryz.func97, Tryz.ntmps97
    go_wp2_with fail
    refine (HI.out _).mono ?_
    rintro e w1 ⟨rfl, rfl⟩
    go_wp2_with fail
    go_ret
    exact ⟨rfl, (Below.refl _ _).alloc (Nat.le_refl _) _⟩
  · have h36 := of_decide_eq_true hm.symm
    by_cases h4 : 4 ≤ p
    · have h4d : decide (4 ≤ p) = true := decide_eq_true h4
      have hrr : ((x.i : Int) == 0) = r := by
        rw [hr, Bool.eq_iff_iff, decide_eq_true_iff, beq_iff_eq]; omega
      clear hm hr h36 h4
      go_enter Tryz.func97, Tryz.ntmps97
      go_wp2_with fail
      refine (HI.out _).mono ?_
      rintro e w1 ⟨rfl, rfl⟩
      go_wp2_with fail
      go_ret
      exact ⟨rfl, (Below.refl _ _).alloc (Nat.le_refl _) _⟩
    · have h4d : decide (4 ≤ p) = false := decide_eq_false h4
      have : r = false := by rw [hr, decide_eq_false]; omega
      subst this
      clear hm hr h36 h4
      go_enter Tryz.func97, Tryz.ntmps97
      go_wp2_with fail
      refine (HI.out _).mono ?_
      rintro e w1 ⟨rfl, rfl⟩
      go_wp2_with fail
      go_ret
      exact ⟨rfl, (Below.refl _ _).alloc (Nat.le_refl _) _⟩
def inoStore (x v : Value) : Sem Unit := Instr.storeAt 41 x v
theorem ino_store_fold (x v : Value) : Instr.storeAt 41 x v = inoStore x v := rfl
attribute [local go_sem ↓] ino_store_fold
theorem ino_store {W : World} {g : Nat} {y : Im} (h : InoAt W g y) (x : Im) :
    ∃ W', (inoStore (.pointer (some ⟨g, 0, none⟩)) x.v).run Tryz.prog W = .ok () W' ∧ InoAt W' g x ∧ (∀ k, k ≠ g → W'.heap[k]? = W.heap[k]?) ∧ ∀ n, n ≤ g → Below n W W' := by
  have hst := run_storeCells_row (P := Tryz.prog) W g 41 _ [.int .u8 x.k, w16 x.n, .int .u32 x.z, w16 x.d0, w16 x.d1, w16 x.d2, w16 x.d3, w16 x.i] h rfl (by simp [Value.oneCell'])
  have sz := Tryz.sizeOf41
  refine ⟨_, ?_, setRow_heap W g _ _ _ _ h, fun k hk => ?_, fun n hn => below_setRow (Below.refl _ _) g hn _⟩
  · unfold inoStore
    simp only [Instr.storeAt, Instr.sureAddr, Sem.run_bind, Sem.run_pure, Result.andThen_ok]
    unfold storeVar
    simp only [Sem.run_bind, sz, Result.andThen_ok, Value.cells]
    simpa using hst
  · simp only [World.setRow, Array.getElem?_modify]
    rw [if_neg (fun e => hk e.symm)]
theorem Boxes.cells {W : World} {h : Nat} {x : Im} (hx : InoAt W h x) : W.cell? ⟨h, 0, none⟩ = some (.int .u8 x.k) ∧ W.cell? ⟨h, 1, none⟩ = some (w16 x.n) ∧ W.cell? ⟨h, 2, none⟩ = some (.int .u32 x.z) ∧ W.cell? ⟨h, 3, none⟩ = some (w16 x.d0) ∧ W.cell? ⟨h, 4, none⟩ = some (w16 x.d1) ∧ W.cell? ⟨h, 5, none⟩ = some (w16 x.d2) ∧ W.cell? ⟨h, 6, none⟩ = some (w16 x.d3) ∧ W.cell? ⟨h, 7, none⟩ = some (w16 x.i) :=
  ⟨cell_of_row W h 0 _ _ _ hx, cell_of_row W h 1 _ _ _ hx, cell_of_row W h 2 _ _ _ hx, cell_of_row W h 3 _ _ _ hx, cell_of_row W h 4 _ _ _ hx, cell_of_row W h 5 _ _ _ hx, cell_of_row W h 6 _ _ _ hx, cell_of_row W h 7 _ _ _ hx⟩
theorem ino_var {W : World} {g : Nat} {x : Im} (h : InoAt W g x) : (loadVar 41 ⟨g, 0, none⟩).run Tryz.prog W = .ok x.v W :=
  run_loadVar_row W g 41 41 _ (0, 0) _ h Tryz.underlying41 rfl (by kernel_rfl)
theorem box_giz (w : World) (i b j : Int) (x : Im) :
    GeoAt (((w.alloc (.cells #[.int .i64 i, .int .i64 b, .int .i64 j] 23)).alloc (.cells #[.int .u8 x.k, w16 x.n, .int .u32 x.z, w16 x.d0, w16 x.d1, w16 x.d2, w16 x.d3, w16 x.i] 41)).alloc (.cells #[.int .u8 0, .int .u16 0, .int .u32 0, .int .u16 0, .int .u16 0, .int .u16 0, .int .u16 0, .int .u16 0] 41)) w.heap.size i b j ∧ InoAt (((w.alloc (.cells #[.int .i64 i, .int .i64 b, .int .i64 j] 23)).alloc (.cells #[.int .u8 x.k, w16 x.n, .int .u32 x.z, w16 x.d0, w16 x.d1, w16 x.d2, w16 x.d3, w16 x.i] 41)).alloc (.cells #[.int .u8 0, .int .u16 0, .int .u32 0, .int .u16 0, .int .u16 0, .int .u16 0, .int .u16 0, .int .u16 0] 41)) (w.heap.size + 1) x ∧ InoAt (((w.alloc (.cells #[.int .i64 i, .int .i64 b, .int .i64 j] 23)).alloc (.cells #[.int .u8 x.k, w16 x.n, .int .u32 x.z, w16 x.d0, w16 x.d1, w16 x.d2, w16 x.d3, w16 x.i] 41)).alloc (.cells #[.int .u8 0, .int .u16 0, .int .u32 0, .int .u16 0, .int .u16 0, .int .u16 0, .int .u16 0, .int .u16 0] 41)) (w.heap.size + 1 + 1) Im.nought ∧ Below w.heap.size w (((w.alloc (.cells #[.int .i64 i, .int .i64 b, .int .i64 j] 23)).alloc (.cells #[.int .u8 x.k, w16 x.n, .int .u32 x.z, w16 x.d0, w16 x.d1, w16 x.d2, w16 x.d3, w16 x.i] 41)).alloc (.cells #[.int .u8 0, .int .u16 0, .int .u32 0, .int .u16 0, .int .u16 0, .int .u16 0, .int .u16 0, .int .u16 0] 41)) := by
  obtain ⟨h1, h2, h3⟩ := box_gi w i b j x
  have hs : ((w.alloc (.cells #[.int .i64 i, .int .i64 b, .int .i64 j] 23)).alloc (.cells #[.int .u8 x.k, w16 x.n, .int .u32 x.z, w16 x.d0, w16 x.d1, w16 x.d2, w16 x.d3, w16 x.i] 41)).heap.size = w.heap.size + 1 + 1 := by simp
  have h4 := heap_alloc_new ((w.alloc (.cells #[.int .i64 i, .int .i64 b, .int .i64 j] 23)).alloc (.cells #[.int .u8 x.k, w16 x.n, .int .u32 x.z, w16 x.d0, w16 x.d1, w16 x.d2, w16 x.d3, w16 x.i] 41)) (.cells #[.int .u8 0, .int .u16 0, .int .u32 0, .int .u16 0, .int .u16 0, .int .u16 0, .int .u16 0, .int .u16 0] 41)
  generalize ((w.alloc (.cells #[.int .i64 i, .int .i64 b, .int .i64 j] 23)).alloc (.cells #[.int .u8 x.k, w16 x.n, .int .u32 x.z, w16 x.d0, w16 x.d1, w16 x.d2, w16 x.d3, w16 x.i] 41)) = V at *
  have hb : Below V.heap.size V (V.alloc (.cells #[.int .u8 0, .int .u16 0, .int .u32 0, .int .u16 0, .int .u16 0, .int .u16 0, .int .u16 0, .int .u16 0] 41)) := (Below.refl _ _).alloc (Nat.le_refl _) _
  refine ⟨h1.below hb, h2.below hb (by omega), by rw [hs] at h4; exact h4, h3.trans (hb.mono h3.size)⟩
def Im.setDir (x : Im) (p c : Nat) : Im :=
  match p with
  | 0 => { x with d0 := c }
  | 1 => { x with d1 := c }
  | 2 => { x with d2 := c }
  | _ => { x with d3 := c }
set_option maxHeartbeats 2000000 in
theorem set_no (t : Option Addr) (i b j : Int) (x : Im) (p : Int) (c : Nat) (r : Int) (hr : r ≠ 0) (w : World) (hN : ∀ V g, V.heap[g]? = some (.cells #[w16 c] 38 (0, 0)) → Calls Tryz.prog 154 #[.pointer t, geoV i b j, x.v, .bool (decide (0 ≤ p ∧ p < 36)), .slice (some ⟨g, 0, none⟩) 1 1] V fun e w' => e = .returned (.int .i64 r) ∧ Below V.heap.size V w') :
    Calls Tryz.prog 101 #[.pointer t, geoV i b j, x.v, .int .i64 p, w16 c] w fun e w' => e = .returned (.tuple #[Im.nought.v, .int .i64 r]) ∧ Below w.heap.size w w' := by
  obtain ⟨hG, hX, hZ, hB⟩ := box_giz w i b j x
  generalize hW : (((w.alloc (.cells #[.int .i64 i, .int .i64 b, .int .i64 j] 23)).alloc (.cells #[.int .u8 x.k, w16 x.n, .int .u32 x.z, w16 x.d0, w16 x.d1, w16 x.d2, w16 x.d3, w16 x.i] 41)).alloc (.cells #[.int .u8 0, .int .u16 0, .int .u32 0, .int .u16 0, .int .u16 0, .int .u16 0, .int .u16 0, .int .u16 0] 41)) = W0 at *
  obtain ⟨g0, g1, g2, x0, x1, x2, x3, x4, x5, x6, x7⟩ := Boxes.of hG hX
  have HG := Lib.hid hG
  have HX := Lib.hid hX
  have HZ := Lib.hid hZ
  have HB := Lib.hid hB
  have HI := Lib.hid fun V => isPage_any p V
  have hcc : (W0.alloc (.cells #[w16 c] 38)).heap[W0.heap.size]? = some (.cells #[w16 c] 38 (0, 0)) := heap_alloc_new W0 _
  have HN := Lib.hid (fun V (hV : Below (W0.alloc (.cells #[w16 c] 38)).heap.size (W0.alloc (.cells #[w16 c] 38)) V) => hN V W0.heap.size ((hV.block _ (by simp)).trans hcc))
  have hbc : Below W0.heap.size W0 (W0.alloc (.cells #[w16 c] 38)) := (Below.refl _ _).alloc (Nat.le_refl _) _
  have HBC := Lib.hid hbc
  generalize decide (0 ≤ p ∧ p < 36) = m at HI HN
  have HW := Lib.hid hW
  clear hW hG hX hZ hB hN hcc hbc
  have hne : (r != 0) = true := by simpa using hr
  clear hr
  go_enter Tryz.func101, Tryz.ntmps101
  go_wp2_with fail
  rw [HW.out]
  clear HW
  go_region_held3 (fun W' => W'.cell? ⟨w.heap.size, 0, none⟩ = some (.int .i64 i) ∧ W'.cell? ⟨w.heap.size, 1, none⟩ = some (.int .i64 b) ∧ W'.cell? ⟨w.heap.size, 2, none⟩ = some (.int .i64 j) ∧ W'.cell? ⟨w.heap.size + 1, 0, none⟩ = some (.int .u8 x.k) ∧ W'.cell? ⟨w.heap.size + 1, 1, none⟩ = some (w16 x.n) ∧ W'.cell? ⟨w.heap.size + 1, 2, none⟩ = some (.int .u32 x.z) ∧ W'.cell? ⟨w.heap.size + 1, 3, none⟩ = some (w16 x.d0) ∧ W'.cell? ⟨w.heap.size + 1, 4, none⟩ = some (w16 x.d1) ∧ W'.cell? ⟨w.heap.size + 1, 5, none⟩ = some (w16 x.d2) ∧ W'.cell? ⟨w.heap.size + 1, 6, none⟩ = some (w16 x.d3) ∧ W'.cell? ⟨w.heap.size + 1, 7, none⟩ = some (w16 x.i))
    (first | exact ⟨g0, g1, g2, x0, x1, x2, x3, x4, x5, x6, x7⟩ | go_keep)
    (first | (go_at_call 152; ((with_reducible refine (HI.out _).mono ?_); rintro e w1 ⟨rfl, rfl⟩))
           | (go_at_call 154; ((with_reducible refine (HN.out _ (Below.refl _ _).drew).mono ?_); rintro e w1 ⟨rfl, hb⟩; have HB1 := Lib.hid (HBC.out.trans ((below_of_drew hb).mono HBC.out.size)); have HG1 := Lib.hid (HG.out.below HB1.out); have HX1 := Lib.hid (HX.out.below HB1.out HX.out.lt); obtain ⟨g0, g1, g2, x0, x1, x2, x3, x4, x5, x6, x7⟩ := Boxes.of HG1.out HX1.out; have HZ1 := Lib.hid (HZ.out.below HB1.out HZ.out.lt); clear hb)))
  all_goals
    obtain ⟨w2, hs, hz, -, hb2⟩ := ino_store HZ1.out Im.nought
    have hs2 : (inoStore (.pointer (some ⟨w.heap.size + 1 + 1, 0, none⟩)) (.agg #[.int .u8 0, .int .u16 0, .int .u32 0, .int .u16 0, .int .u16 0, .int .u16 0, .int .u16 0, .int .u16 0])).run Tryz.prog w1 = .ok () w2 := hs
    have HZ2 := Lib.hid hz
    have HB2 := Lib.hid ((HB.out.trans (HB1.out.mono HB.out.size)).trans (hb2 _ (by omega)))
    clear hs hz hb2
    go_wp2_with fail
    refine bodyPost_ret (v := .tuple #[Im.nought.v, .int .i64 r]) ?_ rfl ⟨rfl, HB2.out⟩
    exact results_row_tmp (p := 10) (q := 11) rfl _ _ (w.heap.size + 1 + 1) _ rfl (ino_var HZ2.out)
set_option maxHeartbeats 2000000 in
theorem set_none (t : Option Addr) (i b j : Int) (x : Im) (p : Int) (c : Nat) (hd : 4 ≤ p ∧ p < 36 ∧ x.i = 0) (w : World) (hN : ∀ V g, V.heap[g]? = some (.cells #[w16 c] 38 (0, 0)) → Calls Tryz.prog 154 #[.pointer t, geoV i b j, x.v, .bool (decide (0 ≤ p ∧ p < 36)), .slice (some ⟨g, 0, none⟩) 1 1] V fun e w' => e = .returned (.int .i64 0) ∧ Below V.heap.size V w') :
    Calls Tryz.prog 101 #[.pointer t, geoV i b j, x.v, .int .i64 p, w16 c] w fun e w' => e = .returned (.tuple #[Im.nought.v, .int .i64 3]) ∧ Below w.heap.size w w' := by
  obtain ⟨hG, hX, hZ, hB⟩ := box_giz w i b j x
  generalize hW : (((w.alloc (.cells #[.int .i64 i, .int .i64 b, .int .i64 j] 23)).alloc (.cells #[.int .u8 x.k, w16 x.n, .int .u32 x.z, w16 x.d0, w16 x.d1, w16 x.d2, w16 x.d3, w16 x.i] 41)).alloc (.cells #[.int .u8 0, .int .u16 0, .int .u32 0, .int .u16 0, .int .u16 0, .int .u16 0, .int .u16 0, .int .u16 0] 41)) = W0 at *
  obtain ⟨g0, g1, g2, x0, x1, x2, x3, x4, x5, x6, x7⟩ := Boxes.of hG hX
  have HG := Lib.hid hG
  have HX := Lib.hid hX
  have HZ := Lib.hid hZ
  have HB := Lib.hid hB
  have HI := Lib.hid fun V => isPage_any p V
  have hcc : (W0.alloc (.cells #[w16 c] 38)).heap[W0.heap.size]? = some (.cells #[w16 c] 38 (0, 0)) := heap_alloc_new W0 _
  have HN := Lib.hid (fun V (hV : Below (W0.alloc (.cells #[w16 c] 38)).heap.size (W0.alloc (.cells #[w16 c] 38)) V) => hN V W0.heap.size ((hV.block _ (by simp)).trans hcc))
  have hbc : Below W0.heap.size W0 (W0.alloc (.cells #[w16 c] 38)) := (Below.refl _ _).alloc (Nat.le_refl _) _
  have HBC := Lib.hid hbc
  generalize decide (0 ≤ p ∧ p < 36) = m at HI HN
  have HW := Lib.hid hW
  clear hW hG hX hZ hB hN hcc hbc
  have hnd := fun V => needs_any x p V
  rw [decide_eq_true hd] at hnd
  have HNd := Lib.hid hnd
  clear hnd hd
  go_enter Tryz.func101, Tryz.ntmps101
  go_wp2_with fail
  rw [HW.out]
  clear HW
  go_region_held3 (fun W' => W'.cell? ⟨w.heap.size, 0, none⟩ = some (.int .i64 i) ∧ W'.cell? ⟨w.heap.size, 1, none⟩ = some (.int .i64 b) ∧ W'.cell? ⟨w.heap.size, 2, none⟩ = some (.int .i64 j) ∧ W'.cell? ⟨w.heap.size + 1, 0, none⟩ = some (.int .u8 x.k) ∧ W'.cell? ⟨w.heap.size + 1, 1, none⟩ = some (w16 x.n) ∧ W'.cell? ⟨w.heap.size + 1, 2, none⟩ = some (.int .u32 x.z) ∧ W'.cell? ⟨w.heap.size + 1, 3, none⟩ = some (w16 x.d0) ∧ W'.cell? ⟨w.heap.size + 1, 4, none⟩ = some (w16 x.d1) ∧ W'.cell? ⟨w.heap.size + 1, 5, none⟩ = some (w16 x.d2) ∧ W'.cell? ⟨w.heap.size + 1, 6, none⟩ = some (w16 x.d3) ∧ W'.cell? ⟨w.heap.size + 1, 7, none⟩ = some (w16 x.i))
    (first | exact ⟨g0, g1, g2, x0, x1, x2, x3, x4, x5, x6, x7⟩ | go_keep)
    (first | (go_at_call 152; ((with_reducible refine (HI.out _).mono ?_); rintro e w1 ⟨rfl, rfl⟩))
           | (go_at_call 154; ((with_reducible refine (HN.out _ (Below.refl _ _).drew).mono ?_); rintro e w1 ⟨rfl, hb⟩; have HB1 := Lib.hid (HBC.out.trans ((below_of_drew hb).mono HBC.out.size)); have HG1 := Lib.hid (HG.out.below HB1.out); have HX1 := Lib.hid (HX.out.below HB1.out HX.out.lt); obtain ⟨g0, g1, g2, x0, x1, x2, x3, x4, x5, x6, x7⟩ := Boxes.of HG1.out HX1.out; have HZ1 := Lib.hid (HZ.out.below HB1.out HZ.out.lt); clear hb)))
  all_goals
    go_wp2_with fail
    refine (HNd.out _).mono ?_
    rintro e w2 ⟨rfl, hb⟩
    have HB2 := Lib.hid ((HB.out.trans (HB1.out.mono HB.out.size)).trans (hb.mono (Nat.le_trans HB.out.size HB1.out.size)))
    obtain ⟨w3, hs, hz, -, hb3⟩ := ino_store (HZ1.out.below hb HZ1.out.lt) Im.nought
    have hs3 : (inoStore (.pointer (some ⟨w.heap.size + 1 + 1, 0, none⟩)) (.agg #[.int .u8 0, .int .u16 0, .int .u32 0, .int .u16 0, .int .u16 0, .int .u16 0, .int .u16 0, .int .u16 0])).run Tryz.prog w2 = .ok () w3 := hs
    have HZ3 := Lib.hid hz
    have HB3 := Lib.hid (HB2.out.trans (hb3 _ (by omega)))
    clear hs hz hb3 hb
    go_wp2_with fail
    refine bodyPost_ret (v := .tuple #[Im.nought.v, .int .i64 3]) ?_ rfl ⟨rfl, HB3.out⟩
    exact results_row_tmp (p := 10) (q := 11) rfl _ _ (w.heap.size + 1 + 1) _ rfl (ino_var HZ3.out)
theorem setDir_cells {W : World} {h : Nat} {x : Im} (hx : InoAt W h x) (p c : Nat) (hp : p < 4) : InoAt (W.setCell ⟨h, 3 + p, none⟩ (w16 c)) h (x.setDir p c) := by
  unfold InoAt at hx ⊢
  rw [heap_setCell_same W h (3 + p) _ _ _ hx]
  match p, hp with
  | 0, _ => rfl
  | 1, _ => rfl
  | 2, _ => rfl
  | 3, _ => rfl
theorem dir_cell {W : World} {h : Nat} {x : Im} (hx : InoAt W h x) (p : Nat) (hp : p < 4) : W.cell? ⟨h, 3 + p, none⟩ = some (w16 (x.dir.getD p 0)) := by
  rw [cell_of_row W h (3 + p) _ _ (0, 0) hx]
  match p, hp with
  | 0, _ => rfl
  | 1, _ => rfl
  | 2, _ => rfl
  | 3, _ => rfl
set_option maxHeartbeats 4000000 in
theorem set_dir (t : Option Addr) (i b j : Int) (x : Im) (p : Nat) (c : Nat) (hp : p < 4) (w : World) (hN : ∀ V g, V.heap[g]? = some (.cells #[w16 c] 38 (0, 0)) → Calls Tryz.prog 154 #[.pointer t, geoV i b j, x.v, .bool (decide (0 ≤ (p : Int) ∧ (p : Int) < 36)), .slice (some ⟨g, 0, none⟩) 1 1] V fun e w' => e = .returned (.int .i64 0) ∧ Below V.heap.size V w') :
    Calls Tryz.prog 101 #[.pointer t, geoV i b j, x.v, .int .i64 (p : Int), w16 c] w fun e w' => e = .returned (.tuple #[(x.setDir p c).v, .int .i64 0]) ∧ Below w.heap.size w w' := by
  obtain ⟨hG, hX, hZ, hB⟩ := box_giz w i b j x
  generalize hW : (((w.alloc (.cells #[.int .i64 i, .int .i64 b, .int .i64 j] 23)).alloc (.cells #[.int .u8 x.k, w16 x.n, .int .u32 x.z, w16 x.d0, w16 x.d1, w16 x.d2, w16 x.d3, w16 x.i] 41)).alloc (.cells #[.int .u8 0, .int .u16 0, .int .u32 0, .int .u16 0, .int .u16 0, .int .u16 0, .int .u16 0, .int .u16 0] 41)) = W0 at *
  obtain ⟨g0, g1, g2, x0, x1, x2, x3, x4, x5, x6, x7⟩ := Boxes.of hG hX
  have HG := Lib.hid hG
  have HX := Lib.hid hX
  have HZ := Lib.hid hZ
  have HB := Lib.hid hB
  have HI := Lib.hid fun V => isPage_any (p : Int) V
  have hcc : (W0.alloc (.cells #[w16 c] 38)).heap[W0.heap.size]? = some (.cells #[w16 c] 38 (0, 0)) := heap_alloc_new W0 _
  have HN := Lib.hid (fun V (hV : Below (W0.alloc (.cells #[w16 c] 38)).heap.size (W0.alloc (.cells #[w16 c] 38)) V) => hN V W0.heap.size ((hV.block _ (by simp)).trans hcc))
  have hbc : Below W0.heap.size W0 (W0.alloc (.cells #[w16 c] 38)) := (Below.refl _ _).alloc (Nat.le_refl _) _
  have HBC := Lib.hid hbc
  generalize decide (0 ≤ (p : Int) ∧ (p : Int) < 36) = m at HI HN
  have HW := Lib.hid hW
  clear hW hG hX hZ hB hN hcc hbc
  have hnd := fun V => needs_any x (p : Int) V
  rw [decide_eq_false (show ¬ (4 ≤ (p : Int) ∧ (p : Int) < 36 ∧ x.i = 0) by omega)] at hnd
  have HNd := Lib.hid hnd
  clear hnd
  go_enter Tryz.func101, Tryz.ntmps101
  go_wp2_with fail
  rw [HW.out]
  clear HW
  go_region_held3 (fun W' => W'.cell? ⟨w.heap.size, 0, none⟩ = some (.int .i64 i) ∧ W'.cell? ⟨w.heap.size, 1, none⟩ = some (.int .i64 b) ∧ W'.cell? ⟨w.heap.size, 2, none⟩ = some (.int .i64 j) ∧ W'.cell? ⟨w.heap.size + 1, 0, none⟩ = some (.int .u8 x.k) ∧ W'.cell? ⟨w.heap.size + 1, 1, none⟩ = some (w16 x.n) ∧ W'.cell? ⟨w.heap.size + 1, 2, none⟩ = some (.int .u32 x.z) ∧ W'.cell? ⟨w.heap.size + 1, 3, none⟩ = some (w16 x.d0) ∧ W'.cell? ⟨w.heap.size + 1, 4, none⟩ = some (w16 x.d1) ∧ W'.cell? ⟨w.heap.size + 1, 5, none⟩ = some (w16 x.d2) ∧ W'.cell? ⟨w.heap.size + 1, 6, none⟩ = some (w16 x.d3) ∧ W'.cell? ⟨w.heap.size + 1, 7, none⟩ = some (w16 x.i))
    (first | exact ⟨g0, g1, g2, x0, x1, x2, x3, x4, x5, x6, x7⟩ | go_keep)
    (first | (go_at_call 152; ((with_reducible refine (HI.out _).mono ?_); rintro e w1 ⟨rfl, rfl⟩))
           | (go_at_call 154; ((with_reducible refine (HN.out _ (Below.refl _ _).drew).mono ?_); rintro e w1 ⟨rfl, hb⟩; have HB1 := Lib.hid (HBC.out.trans ((below_of_drew hb).mono HBC.out.size)); have HG1 := Lib.hid (HG.out.below HB1.out); have HX1 := Lib.hid (HX.out.below HB1.out HX.out.lt); obtain ⟨g0, g1, g2, x0, x1, x2, x3, x4, x5, x6, x7⟩ := Boxes.of HG1.out HX1.out; have HZ1 := Lib.hid (HZ.out.below HB1.out HZ.out.lt); clear hb)))
  all_goals
    go_wp2_with fail
    refine (HNd.out _).mono ?_
    rintro e w2 ⟨rfl, hb⟩
    have HB2 := Lib.hid ((HB.out.trans (HB1.out.mono HB.out.size)).trans (hb.mono (Nat.le_trans HB.out.size HB1.out.size)))
    have hsz2 := HB2.out.size
    have HX2 := Lib.hid (HX1.out.below hb HX1.out.lt)
    have HZ2 := Lib.hid (HZ1.out.below hb HZ1.out.lt)
    have hlt2 := HX2.out.lt
    have hXs := setDir_cells HX2.out p c hp
    have hZs : InoAt (w2.setCell ⟨w.heap.size + 1, 3 + p, none⟩ (w16 c)) (w.heap.size + 1 + 1) Im.nought := (heap_setCell_other _ _ _ _ (by simp)).trans HZ2.out
    obtain ⟨w3, hs, hz, -, hb3⟩ := ino_store hZs (x.setDir p c)
    obtain ⟨x0, x1, x2, x3, x4, x5, x6, x7⟩ := Boxes.cells hXs
    have hv0 := dir_cell HX2.out p hp
    have hfr : w2.frozen? ⟨w.heap.size + 1, 3 + p, none⟩ = false := frozen_of_row w2 _ _ _ _ HX2.out
    have HZ3 := Lib.hid hz
    have HB3 := Lib.hid ((HB2.out.setCell (p := ⟨w.heap.size + 1, 3 + p, none⟩) (by simp) (w16 c)).trans (hb3 _ (by omega)))
    have hpi : (p : Int) < 4 := by omega
    clear hz hb3 hb hXs hZs
    generalize x.dir.getD p 0 = old at hv0
    generalize hx' : x.setDir p c = x' at *
    have HX' := Lib.hid hx'
    clear hx'
    go_wp2_with fail
    refine bodyPost_ret (v := .tuple #[x'.v, .int .i64 0]) ?_ rfl ⟨by rw [HX'.out], HB3.out⟩
    exact results_row_tmp (p := 10) (q := 11) rfl _ _ (w.heap.size + 1 + 1) _ rfl (ino_var HZ3.out)
theorem set_lis {W : World} {g : Nat} {l : List Nat} (h : LisAt W g l) (q c : Nat) : LisAt (W.setCell ⟨g, q, none⟩ (w16 c)) g (l.set q c) := by
  refine ⟨?_, by rw [List.length_set]; exact h.2⟩
  rw [heap_setCell_same W g q _ _ _ h.1]
  congr 2
  simp [List.map_set]
set_option maxHeartbeats 4000000 in
theorem set_ind (t : Option Addr) (i b j : Int) (x : Im) (q : Nat) (hq : q < 32) (p : Int) (hp : p = (q : Int) + 4) (c : Nat) (hi : x.i ≠ 0) (l : List Nat) (hl : l.length = 32) (r : Int) (w : World) (m0 : Nat) (hm : m0 < w.heap.size) (Q : World → Prop) (hQ : ∀ V V', Q V → (∀ k, k < w.heap.size → V'.heap[k]? = V.heap[k]?) → Q V')
    (hN : ∀ V g, V.heap[g]? = some (.cells #[w16 c] 38 (0, 0)) → Calls Tryz.prog 154 #[.pointer t, geoV i b j, x.v, .bool (decide (0 ≤ p ∧ p < 36)), .slice (some ⟨g, 0, none⟩) 1 1] V fun e w' => e = .returned (.int .i64 0) ∧ Below V.heap.size V w')
    (hR : ∀ V, Below w.heap.size w V → Calls Tryz.prog 156 #[.pointer t, geoV i b j, w16 x.i] V fun e w' => e = .returned (.tuple #[lisV l, .int .i64 0]) ∧ Below V.heap.size V w')
    (hWr : ∀ V, Below w.heap.size w V → Calls Tryz.prog 155 #[.pointer t, geoV i b j, w16 x.i, lisV (l.set q c)] V fun e w' => e = .returned (.int .i64 r) ∧ Q w' ∧ Only (fun k => k = m0) V w') :
    Calls Tryz.prog 101 #[.pointer t, geoV i b j, x.v, .int .i64 p, w16 c] w fun e w' => ∃ y : Im, e = .returned (.tuple #[y.v, .int .i64 r]) ∧ (r = 0 → y = x) ∧ (r ≠ 0 → y = Im.nought) ∧ Q w' ∧ Only (fun k => k = m0) w w' := by
  obtain ⟨hG, hX, hZ, hB⟩ := box_giz w i b j x
  generalize hW : (((w.alloc (.cells #[.int .i64 i, .int .i64 b, .int .i64 j] 23)).alloc (.cells #[.int .u8 x.k, w16 x.n, .int .u32 x.z, w16 x.d0, w16 x.d1, w16 x.d2, w16 x.d3, w16 x.i] 41)).alloc (.cells #[.int .u8 0, .int .u16 0, .int .u32 0, .int .u16 0, .int .u16 0, .int .u16 0, .int .u16 0, .int .u16 0] 41)) = W0 at *
  obtain ⟨g0, g1, g2, x0, x1, x2, x3, x4, x5, x6, x7⟩ := Boxes.of hG hX
  have HG := Lib.hid hG
  have HX := Lib.hid hX
  have HZ := Lib.hid hZ
  have HB := Lib.hid hB
  have HI := Lib.hid fun V => isPage_any p V
  have hcc : (W0.alloc (.cells #[w16 c] 38)).heap[W0.heap.size]? = some (.cells #[w16 c] 38 (0, 0)) := heap_alloc_new W0 _
  have HN := Lib.hid (fun V (hV : Below (W0.alloc (.cells #[w16 c] 38)).heap.size (W0.alloc (.cells #[w16 c] 38)) V) => hN V W0.heap.size ((hV.block _ (by simp)).trans hcc))
  have hbc : Below W0.heap.size W0 (W0.alloc (.cells #[w16 c] 38)) := (Below.refl _ _).alloc (Nat.le_refl _) _
  have HBC := Lib.hid hbc
  generalize decide (0 ≤ p ∧ p < 36) = m at HI HN
  have HW := Lib.hid hW
  clear hW hG hX hZ hB hN hcc hbc
  have hnd := fun V => needs_any x p V
  rw [decide_eq_false (show ¬ (4 ≤ p ∧ p < 36 ∧ x.i = 0) by omega)] at hnd
  have HNd := Lib.hid hnd
  have hsub : p - 4 = (q : Int) := by omega
  have hp4 : decide (p < 4) = false := decide_eq_false (by omega)
  have HR := Lib.hid hR
  have HWr := Lib.hid hWr
  have HQ := Lib.hid hQ
  clear hnd hp hR hWr hQ hi
  go_enter Tryz.func101, Tryz.ntmps101
  go_wp2_with fail
  rw [HW.out]
  clear HW
  go_region_held3 (fun W' => W'.cell? ⟨w.heap.size, 0, none⟩ = some (.int .i64 i) ∧ W'.cell? ⟨w.heap.size, 1, none⟩ = some (.int .i64 b) ∧ W'.cell? ⟨w.heap.size, 2, none⟩ = some (.int .i64 j) ∧ W'.cell? ⟨w.heap.size + 1, 0, none⟩ = some (.int .u8 x.k) ∧ W'.cell? ⟨w.heap.size + 1, 1, none⟩ = some (w16 x.n) ∧ W'.cell? ⟨w.heap.size + 1, 2, none⟩ = some (.int .u32 x.z) ∧ W'.cell? ⟨w.heap.size + 1, 3, none⟩ = some (w16 x.d0) ∧ W'.cell? ⟨w.heap.size + 1, 4, none⟩ = some (w16 x.d1) ∧ W'.cell? ⟨w.heap.size + 1, 5, none⟩ = some (w16 x.d2) ∧ W'.cell? ⟨w.heap.size + 1, 6, none⟩ = some (w16 x.d3) ∧ W'.cell? ⟨w.heap.size + 1, 7, none⟩ = some (w16 x.i))
    (first | exact ⟨g0, g1, g2, x0, x1, x2, x3, x4, x5, x6, x7⟩ | go_keep)
    (first | (go_at_call 152; ((with_reducible refine (HI.out _).mono ?_); rintro e w1 ⟨rfl, rfl⟩))
           | (go_at_call 154; ((with_reducible refine (HN.out _ (Below.refl _ _).drew).mono ?_); rintro e w1 ⟨rfl, hb⟩; have HB1 := Lib.hid (HBC.out.trans ((below_of_drew hb).mono HBC.out.size)); have HG1 := Lib.hid (HG.out.below HB1.out); have HX1 := Lib.hid (HX.out.below HB1.out HX.out.lt); obtain ⟨g0, g1, g2, x0, x1, x2, x3, x4, x5, x6, x7⟩ := Boxes.of HG1.out HX1.out; have HZ1 := Lib.hid (HZ.out.below HB1.out HZ.out.lt); clear hb)))
  all_goals
    go_wp2_with fail
    refine (HNd.out _).mono ?_
    rintro e w2 ⟨rfl, hb⟩
    have HB2 := Lib.hid ((HB.out.trans (HB1.out.mono HB.out.size)).trans (hb.mono (Nat.le_trans HB.out.size HB1.out.size)))
    have HG2 := Lib.hid (HG1.out.below hb)
    have HX2 := Lib.hid (HX1.out.below hb HX1.out.lt)
    have HZ2 := Lib.hid (HZ1.out.below hb HZ1.out.lt)
    obtain ⟨g0, g1, g2, x0, x1, x2, x3, x4, x5, x6, x7⟩ := Boxes.of HG2.out HX2.out
    clear hb
    go_wp2_with fail
    refine (HR.out _ HB2.out).mono ?_
    rintro e w3 ⟨rfl, hb⟩
    have hsz3 := hb.size
    have hX3 := HX2.out.below hb HX2.out.lt
    have hG3 := HG2.out.below hb
    have hZ3 := HZ2.out.below hb HZ2.out.lt
    obtain ⟨Z, w4, hz, hs, hL, hb4⟩ := lis_new w3 l hl
    have hltZ := hZ3.lt
    have hX4 := hX3.below hb4 hX3.lt
    have hG4 := hG3.below hb4
    have hZ4 := hZ3.below hb4 hZ3.lt
    have hold := hL.cell (j := q) (n := l.getD q 0) (by rw [List.getD_eq_getElem?_getD, List.getElem?_eq_getElem (by omega)]; rfl)
    have hfr : w4.frozen? ⟨w3.heap.size, q, none⟩ = false := frozen_of_row w4 _ _ _ _ hL.1
    have hL5 := set_lis hL q c
    have hset : ∀ k, k ≠ w3.heap.size → (w4.setCell ⟨w3.heap.size, q, none⟩ (w16 c)).heap[k]? = w4.heap[k]? := fun k hk => heap_setCell_other _ _ _ _ (by simpa using hk)
    have hX5 : InoAt (w4.setCell ⟨w3.heap.size, q, none⟩ (w16 c)) (w.heap.size + 1) x := (hset _ (by omega)).trans hX4
    have hG5 : GeoAt (w4.setCell ⟨w3.heap.size, q, none⟩ (w16 c)) w.heap.size i b j := (hset _ (by omega)).trans hG4
    have hZ5 : InoAt (w4.setCell ⟨w3.heap.size, q, none⟩ (w16 c)) (w.heap.size + 1 + 1) Im.nought := (hset _ (by omega)).trans hZ4
    have HX5 := Lib.hid hX5
    have HZ5 := Lib.hid hZ5
    have hB4 : Below w.heap.size w w4 := (HB2.out.trans (hb.mono HB2.out.size)).trans (hb4.mono (Nat.le_trans HB2.out.size hsz3))
    have HB5 := Lib.hid (hB4.setCell (p := ⟨w3.heap.size, q, none⟩) (by show w.heap.size ≤ w3.heap.size; exact Nat.le_trans HB2.out.size hsz3) (w16 c))
    have hld := lis_load hL5
    obtain ⟨g0, g1, g2, x0, x1, x2, x3, x4, x5, x6, x7⟩ := Boxes.of hG5 hX5
    have hq0 : (0 : Int) ≤ (q : Int) := by omega
    have hq32 : (q : Int) < 32 := by omega
    generalize l.getD q 0 = old at hold
    clear hb hb4 hX3 hG3 hZ3 hX4 hG4 hZ4 hL hL5 hX5 hG5 hZ5 hB4 hset
    go_wp2_with fail
    generalize (w4.setCell ⟨w3.heap.size, q, none⟩ (w16 c)) = w5 at *
    refine (HWr.out _ HB5.out).mono ?_
    rintro e w6 ⟨rfl, hq6, ho6⟩
    have hX6 : InoAt w6 (w.heap.size + 1) x := (ho6.block _ HX5.out.lt (by omega)).trans HX5.out
    have hZ6 : InoAt w6 (w.heap.size + 1 + 1) Im.nought := (ho6.block _ HZ5.out.lt (by omega)).trans HZ5.out
    have ho0 : Only (fun k => k = m0) w w6 := (Only.of_below (S := fun k => k = m0) HB5.out).trans ho6 fun k hk => .inl hk
    obtain ⟨x0, x1, x2, x3, x4, x5, x6, x7⟩ := Boxes.cells hX6
    have HX6 := Lib.hid hX6
    have HO := Lib.hid ho0
    have HQ6 := Lib.hid hq6
    have HZ6 := Lib.hid hZ6
    clear ho0 ho6 hq6 hX6 hZ6 hs hld hold hfr
    by_cases hr : r = 0
    · obtain ⟨w7, hs, hz7, ho7, hb7⟩ := ino_store HZ6.out x
      have HZ7 := Lib.hid hz7
      have HQ7 := Lib.hid (HQ.out w6 w7 HQ6.out fun k hk => ho7 k (by omega))
      have HO7 := Lib.hid (HO.out.trans ⟨(hb7 0 (Nat.zero_le _)).os, (hb7 0 (Nat.zero_le _)).tape, (hb7 0 (Nat.zero_le _)).output, (hb7 0 (Nat.zero_le _)).size, fun k _ hn => ho7 k hn⟩ (S' := fun k => k = w.heap.size + 1 + 1) fun k hk => .inr (by omega))
      have HR0 := Lib.hid hr
      have hne : (r != 0) = false := by simpa using hr
      clear hz7 ho7 hb7 hr
      go_wp2_with fail
      refine bodyPost_ret (v := .tuple #[x.v, .int .i64 r]) ?_ rfl ⟨x, rfl, fun _ => rfl, fun h => absurd HR0.out h, HQ7.out, HO7.out⟩
      rw [HR0.out]
      exact results_row_tmp (p := 10) (q := 11) rfl _ _ (w.heap.size + 1 + 1) _ rfl (ino_var HZ7.out)
    · obtain ⟨w7, hs, hz7, ho7, hb7⟩ := ino_store HZ6.out Im.nought
      have hs7 : (inoStore (.pointer (some ⟨w.heap.size + 1 + 1, 0, none⟩)) (.agg #[.int .u8 0, .int .u16 0, .int .u32 0, .int .u16 0, .int .u16 0, .int .u16 0, .int .u16 0, .int .u16 0])).run Tryz.prog w6 = .ok () w7 := hs
      have HZ7 := Lib.hid hz7
      have HQ7 := Lib.hid (HQ.out w6 w7 HQ6.out fun k hk => ho7 k (by omega))
      have HO7 := Lib.hid (HO.out.trans ⟨(hb7 0 (Nat.zero_le _)).os, (hb7 0 (Nat.zero_le _)).tape, (hb7 0 (Nat.zero_le _)).output, (hb7 0 (Nat.zero_le _)).size, fun k _ hn => ho7 k hn⟩ (S' := fun k => k = w.heap.size + 1 + 1) fun k hk => .inr (by omega))
      have HR0 := Lib.hid hr
      have hne : (r != 0) = true := by simpa using hr
      clear hz7 ho7 hb7 hr hs
      go_wp2_with fail
      refine bodyPost_ret (v := .tuple #[Im.nought.v, .int .i64 r]) ?_ rfl ⟨Im.nought, rfl, fun h => absurd h HR0.out, fun _ => rfl, HQ7.out, HO7.out⟩
      exact results_row_tmp (p := 10) (q := 11) rfl _ _ (w.heap.size + 1 + 1) _ rfl (ino_var HZ7.out)
end Go.Proofs.YtnfiapjdkjbdhaaGreat
/- Layer 9 (bmap): Begin. Written by tools/genbmap13.py. -/
namespace Go.Proofs.YtnfiapjdkjbdhaaGreat
open Go.RowKit Go.Maps Go.Lib
set_option linter.unusedVariables false
set_option linter.unusedSimpArgs false
set_option maxRecDepth 10000
attribute [local go_sem ↓] ino_store_fold
set_option maxHeartbeats 2000000 in
theorem begin_no (t : Option Addr) (i b j : Int) (x : Im) (c : Nat) (r : Int) (hr : r ≠ 0) (w : World) (hN : ∀ V g, V.heap[g]? = some (.cells #[w16 c] 38 (0, 0)) → Calls Tryz.prog 154 #[.pointer t, geoV i b j, x.v, .bool (decide (c ≠ 0 ∧ x.i = 0)), .slice (some ⟨g, 0, none⟩) 1 1] V fun e w' => e = .returned (.int .i64 r) ∧ Below V.heap.size V w') :
    Calls Tryz.prog 100 #[.pointer t, geoV i b j, x.v, w16 c] w fun e w' => e = .returned (.tuple #[Im.nought.v, .int .i64 r]) ∧ Below w.heap.size w w' := by
  obtain ⟨hG, hX, hZ, hB⟩ := box_giz w i b j x
  have hs0 : (((w.alloc (.cells #[.int .i64 i, .int .i64 b, .int .i64 j] 23)).alloc (.cells #[.int .u8 x.k, w16 x.n, .int .u32 x.z, w16 x.d0, w16 x.d1, w16 x.d2, w16 x.d3, w16 x.i] 41)).alloc (.cells #[.int .u8 0, .int .u16 0, .int .u32 0, .int .u16 0, .int .u16 0, .int .u16 0, .int .u16 0, .int .u16 0] 41)).heap.size = w.heap.size + 1 + 1 + 1 := by simp
  generalize hW : (((w.alloc (.cells #[.int .i64 i, .int .i64 b, .int .i64 j] 23)).alloc (.cells #[.int .u8 x.k, w16 x.n, .int .u32 x.z, w16 x.d0, w16 x.d1, w16 x.d2, w16 x.d3, w16 x.i] 41)).alloc (.cells #[.int .u8 0, .int .u16 0, .int .u32 0, .int .u16 0, .int .u16 0, .int .u16 0, .int .u16 0, .int .u16 0] 41)) = W0 at *
  obtain ⟨g0, g1, g2, x0, x1, x2, x3, x4, x5, x6, x7⟩ := Boxes.of hG hX
  have HG := Lib.hid hG
  have HX := Lib.hid hX
  have HZ := Lib.hid hZ
  have HB := Lib.hid hB
  have hcc : (W0.alloc (.cells #[w16 c] 38)).heap[W0.heap.size]? = some (.cells #[w16 c] 38 (0, 0)) := heap_alloc_new W0 _
  have hNN := fun V (hV : Below (W0.alloc (.cells #[w16 c] 38)).heap.size (W0.alloc (.cells #[w16 c] 38)) V) => hN V W0.heap.size ((hV.block _ (by simp)).trans hcc)
  rw [hs0] at hNN
  have hbc : Below W0.heap.size W0 (W0.alloc (.cells #[w16 c] 38)) := (Below.refl _ _).alloc (Nat.le_refl _) _
  have HBC := Lib.hid hbc
  have HW := Lib.hid hW
  clear hW hG hX hZ hB hN hcc hbc hs0
  have hne : (r != 0) = true := by simpa using hr
  clear hr
  by_cases hc : c = 0
  · rw [decide_eq_false (by omega)] at hNN
    have HN := Lib.hid hNN
    have hcb : ((c : Int) != 0) = false := by rw [hc]; rfl
    clear hNN hc
    go_enter Tryz.func100, Tryz.ntmps100
    go_wp2_with fail
    rw [HW.out]
    clear HW
    refine (HN.out _ (Below.refl _ _)).mono ?_
    rintro e w1 ⟨rfl, hb⟩
    have HB1 := Lib.hid (HBC.out.trans (hb.mono HBC.out.size))
    have HG1 := Lib.hid (HG.out.below HB1.out)
    have HX1 := Lib.hid (HX.out.below HB1.out HX.out.lt)
    obtain ⟨g0, g1, g2, x0, x1, x2, x3, x4, x5, x6, x7⟩ := Boxes.of HG1.out HX1.out
    have HZ1 := Lib.hid (HZ.out.below HB1.out HZ.out.lt)
    clear hb
    obtain ⟨w2, hs, hz, -, hb2⟩ := ino_store HZ1.out Im.nought
    have hs2 : (inoStore (.pointer (some ⟨w.heap.size + 1 + 1, 0, none⟩)) (.agg #[.int .u8 0, .int .u16 0, .int .u32 0, .int .u16 0, .int .u16 0, .int .u16 0, .int .u16 0, .int .u16 0])).run Tryz.prog w1 = .ok () w2 := hs
    have HZ2 := Lib.hid hz
    have HB2 := Lib.hid ((HB.out.trans (HB1.out.mono HB.out.size)).trans (hb2 _ (by omega)))
    clear hs hz hb2
    go_wp2_with fail
    refine bodyPost_ret (v := .tuple #[Im.nought.v, .int .i64 r]) ?_ rfl ⟨rfl, HB2.out⟩
    exact results_row_tmp (p := 8) (q := 9) rfl _ _ (w.heap.size + 1 + 1) _ rfl (ino_var HZ2.out)
  · have hcb : ((c : Int) != 0) = true := by simp; omega
    by_cases hi : x.i = 0
    · rw [decide_eq_true ⟨hc, hi⟩] at hNN
      have HN := Lib.hid hNN
      have hib : ((x.i : Int) == 0) = true := by rw [hi]; rfl
      clear hNN hc hi
      go_enter Tryz.func100, Tryz.ntmps100
      go_wp2_with fail
      rw [HW.out]
      clear HW
      refine (HN.out _ (Below.refl _ _)).mono ?_
      rintro e w1 ⟨rfl, hb⟩
      have HB1 := Lib.hid (HBC.out.trans (hb.mono HBC.out.size))
      have HG1 := Lib.hid (HG.out.below HB1.out)
      have HX1 := Lib.hid (HX.out.below HB1.out HX.out.lt)
      obtain ⟨g0, g1, g2, x0, x1, x2, x3, x4, x5, x6, x7⟩ := Boxes.of HG1.out HX1.out
      have HZ1 := Lib.hid (HZ.out.below HB1.out HZ.out.lt)
      clear hb
      obtain ⟨w2, hs, hz, -, hb2⟩ := ino_store HZ1.out Im.nought
      have hs2 : (inoStore (.pointer (some ⟨w.heap.size + 1 + 1, 0, none⟩)) (.agg #[.int .u8 0, .int .u16 0, .int .u32 0, .int .u16 0, .int .u16 0, .int .u16 0, .int .u16 0, .int .u16 0])).run Tryz.prog w1 = .ok () w2 := hs
      have HZ2 := Lib.hid hz
      have HB2 := Lib.hid ((HB.out.trans (HB1.out.mono HB.out.size)).trans (hb2 _ (by omega)))
      clear hs hz hb2
      go_wp2_with fail
      refine bodyPost_ret (v := .tuple #[Im.nought.v, .int .i64 r]) ?_ rfl ⟨rfl, HB2.out⟩
      exact results_row_tmp (p := 8) (q := 9) rfl _ _ (w.heap.size + 1 + 1) _ rfl (ino_var HZ2.out)
    · rw [decide_eq_false (by omega)] at hNN
      have HN := Lib.hid hNN
      have hib : ((x.i : Int) == 0) = false := by simp; omega
      clear hNN hc hi
      go_enter Tryz.func100, Tryz.ntmps100
      go_wp2_with fail
      rw [HW.out]
      clear HW
      refine (HN.out _ (Below.refl _ _)).mono ?_
      rintro e w1 ⟨rfl, hb⟩
      have HB1 := Lib.hid (HBC.out.trans (hb.mono HBC.out.size))
      have HG1 := Lib.hid (HG.out.below HB1.out)
      have HX1 := Lib.hid (HX.out.below HB1.out HX.out.lt)
      obtain ⟨g0, g1, g2, x0, x1, x2, x3, x4, x5, x6, x7⟩ := Boxes.of HG1.out HX1.out
      have HZ1 := Lib.hid (HZ.out.below HB1.out HZ.out.lt)
      clear hb
      obtain ⟨w2, hs, hz, -, hb2⟩ := ino_store HZ1.out Im.nought
      have hs2 : (inoStore (.pointer (some ⟨w.heap.size + 1 + 1, 0, none⟩)) (.agg #[.int .u8 0, .int .u16 0, .int .u32 0, .int .u16 0, .int .u16 0, .int .u16 0, .int .u16 0, .int .u16 0])).run Tryz.prog w1 = .ok () w2 := hs
      have HZ2 := Lib.hid hz
      have HB2 := Lib.hid ((HB.out.trans (HB1.out.mono HB.out.size)).trans (hb2 _ (by omega)))
      clear hs hz hb2
      go_wp2_with fail
      refine bodyPost_ret (v := .tuple #[Im.nought.v, .int .i64 r]) ?_ rfl ⟨rfl, HB2.out⟩
      exact results_row_tmp (p := 8) (q := 9) rfl _ _ (w.heap.size + 1 + 1) _ rfl (ino_var HZ2.out)
theorem setInd_cells {W : World} {h : Nat} {x : Im} (hx : InoAt W h x) (c : Nat) : InoAt (W.setCell ⟨h, 7, none⟩ (w16 c)) h { x with i := c } := by
  unfold InoAt at hx ⊢
  rw [heap_setCell_same W h 7 _ _ _ hx]
  rfl
set_option maxHeartbeats 4000000 in
theorem begin_ok (t : Option Addr) (i b j : Int) (x : Im) (c : Nat) (hc : c ≠ 0) (hi : x.i = 0) (r : Int) (w : World) (m0 : Nat) (hm : m0 < w.heap.size) (Q : World → Prop) (hQ : ∀ V V', Q V → (∀ k, k < w.heap.size → V'.heap[k]? = V.heap[k]?) → Q V')
    (hN : ∀ V g, V.heap[g]? = some (.cells #[w16 c] 38 (0, 0)) → Calls Tryz.prog 154 #[.pointer t, geoV i b j, x.v, .bool (decide (c ≠ 0 ∧ x.i = 0)), .slice (some ⟨g, 0, none⟩) 1 1] V fun e w' => e = .returned (.int .i64 0) ∧ Below V.heap.size V w')
    (hWr : ∀ V, Below w.heap.size w V → Calls Tryz.prog 155 #[.pointer t, geoV i b j, w16 c, lisV (List.replicate 32 0)] V fun e w' => e = .returned (.int .i64 r) ∧ Q w' ∧ Only (fun k => k = m0) V w') :
    Calls Tryz.prog 100 #[.pointer t, geoV i b j, x.v, w16 c] w fun e w' => ∃ y : Im, e = .returned (.tuple #[y.v, .int .i64 r]) ∧ (r = 0 → y = { x with i := c }) ∧ (r ≠ 0 → y = Im.nought) ∧ Q w' ∧ Only (fun k => k = m0) w w' := by
  obtain ⟨hG, hX, hZ, hB⟩ := box_giz w i b j x
  have hs0 : (((w.alloc (.cells #[.int .i64 i, .int .i64 b, .int .i64 j] 23)).alloc (.cells #[.int .u8 x.k, w16 x.n, .int .u32 x.z, w16 x.d0, w16 x.d1, w16 x.d2, w16 x.d3, w16 x.i] 41)).alloc (.cells #[.int .u8 0, .int .u16 0, .int .u32 0, .int .u16 0, .int .u16 0, .int .u16 0, .int .u16 0, .int .u16 0] 41)).heap.size = w.heap.size + 1 + 1 + 1 := by simp
  generalize hW : (((w.alloc (.cells #[.int .i64 i, .int .i64 b, .int .i64 j] 23)).alloc (.cells #[.int .u8 x.k, w16 x.n, .int .u32 x.z, w16 x.d0, w16 x.d1, w16 x.d2, w16 x.d3, w16 x.i] 41)).alloc (.cells #[.int .u8 0, .int .u16 0, .int .u32 0, .int .u16 0, .int .u16 0, .int .u16 0, .int .u16 0, .int .u16 0] 41)) = W0 at *
  obtain ⟨g0, g1, g2, x0, x1, x2, x3, x4, x5, x6, x7⟩ := Boxes.of hG hX
  have HG := Lib.hid hG
  have HX := Lib.hid hX
  have HZ := Lib.hid hZ
  have HB := Lib.hid hB
  have hcc : (W0.alloc (.cells #[w16 c] 38)).heap[W0.heap.size]? = some (.cells #[w16 c] 38 (0, 0)) := heap_alloc_new W0 _
  have hNN := fun V (hV : Below (W0.alloc (.cells #[w16 c] 38)).heap.size (W0.alloc (.cells #[w16 c] 38)) V) => hN V W0.heap.size ((hV.block _ (by simp)).trans hcc)
  rw [hs0] at hNN
  have hbc : Below W0.heap.size W0 (W0.alloc (.cells #[w16 c] 38)) := (Below.refl _ _).alloc (Nat.le_refl _) _
  have HBC := Lib.hid hbc
  have HW := Lib.hid hW
  clear hW hG hX hZ hB hN hcc hbc hs0
  have hcb : ((c : Int) != 0) = true := by simp; omega
  rw [decide_eq_true ⟨hc, hi⟩] at hNN
  have HN := Lib.hid hNN
  have hib : ((x.i : Int) == 0) = true := by rw [hi]; rfl
  obtain ⟨hz, -⟩ := zero_of_info lisInfo2
  have HWr := Lib.hid hWr
  have HQ := Lib.hid hQ
  generalize List.replicate 32 0 = Z at *
  clear hNN hc hi hWr hQ
  go_enter Tryz.func100, Tryz.ntmps100
  go_wp2_with fail
  rw [HW.out]
  clear HW
  refine (HN.out _ (Below.refl _ _)).mono ?_
  rintro e w1 ⟨rfl, hb⟩
  have HB1 := Lib.hid (HBC.out.trans (hb.mono HBC.out.size))
  have HG1 := Lib.hid (HG.out.below HB1.out)
  have HX1 := Lib.hid (HX.out.below HB1.out HX.out.lt)
  obtain ⟨g0, g1, g2, x0, x1, x2, x3, x4, x5, x6, x7⟩ := Boxes.of HG1.out HX1.out
  have HZ1 := Lib.hid (HZ.out.below HB1.out HZ.out.lt)
  clear hb
  go_wp2_with fail
  have HB5 := Lib.hid (HB.out.trans (HB1.out.mono HB.out.size))
  refine (HWr.out _ HB5.out).mono ?_
  rintro e w6 ⟨rfl, hq6, ho6⟩
  have hX6 : InoAt w6 (w.heap.size + 1) x := (ho6.block _ HX1.out.lt (by omega)).trans HX1.out
  have hZ6 : InoAt w6 (w.heap.size + 1 + 1) Im.nought := (ho6.block _ HZ1.out.lt (by omega)).trans HZ1.out
  have ho0 : Only (fun k => k = m0) w w6 := (Only.of_below (S := fun k => k = m0) HB5.out).trans ho6 fun k hk => .inl hk
  have HX6 := Lib.hid hX6
  have HO := Lib.hid ho0
  have HQ6 := Lib.hid hq6
  have HZ6 := Lib.hid hZ6
  clear ho0 ho6 hq6
  by_cases hr : r = 0
  · have hX7 := setInd_cells hX6 c
    have hZ7 : InoAt (w6.setCell ⟨w.heap.size + 1, 7, none⟩ (w16 c)) (w.heap.size + 1 + 1) Im.nought := (heap_setCell_other _ _ _ _ (by simp)).trans hZ6
    have h7 := (Boxes.cells hX6).2.2.2.2.2.2.2
    have hfr : w6.frozen? ⟨w.heap.size + 1, 7, none⟩ = false := frozen_of_row w6 _ _ _ _ hX6
    obtain ⟨x0, x1, x2, x3, x4, x5, x6, x7⟩ := Boxes.cells hX7
    obtain ⟨w7, hs, hz7, ho7, hb7⟩ := ino_store hZ7 { x with i := c }
    have HZ7 := Lib.hid hz7
    have hsame : ∀ k, k ≠ w.heap.size + 1 → k ≠ w.heap.size + 1 + 1 → w7.heap[k]? = w6.heap[k]? := fun k h1 h2 => (ho7 k h2).trans (heap_setCell_other _ _ _ _ (by simpa using h1))
    have hsz7 := (hb7 0 (Nat.zero_le _)).size
    have HQ7 := Lib.hid (HQ.out w6 w7 HQ6.out fun k hk => hsame k (by omega) (by omega))
    have HO7 := Lib.hid (HO.out.trans ⟨(hb7 0 (Nat.zero_le _)).os, (hb7 0 (Nat.zero_le _)).tape, (hb7 0 (Nat.zero_le _)).output, by simpa [World.setCell] using hsz7, fun k _ hn => hsame k (fun e => hn (.inl e)) (fun e => hn (.inr e))⟩ (S' := fun k => k = w.heap.size + 1 ∨ k = w.heap.size + 1 + 1) fun k hk => .inr (by omega))
    have HR0 := Lib.hid hr
    have hne : (r != 0) = false := by simpa using hr
    clear hz7 ho7 hb7 hr hX6 hZ6 hX7 hZ7 hsame hsz7
    go_wp2_with fail
    refine bodyPost_ret (v := .tuple #[({ x with i := c } : Im).v, .int .i64 r]) ?_ rfl ⟨_, rfl, fun _ => rfl, fun h => absurd HR0.out h, HQ7.out, HO7.out⟩
    rw [HR0.out]
    exact results_row_tmp (p := 8) (q := 9) rfl _ _ (w.heap.size + 1 + 1) _ rfl (ino_var HZ7.out)
  · obtain ⟨w7, hs, hz7, ho7, hb7⟩ := ino_store HZ6.out Im.nought
    have hs7 : (inoStore (.pointer (some ⟨w.heap.size + 1 + 1, 0, none⟩)) (.agg #[.int .u8 0, .int .u16 0, .int .u32 0, .int .u16 0, .int .u16 0, .int .u16 0, .int .u16 0, .int .u16 0])).run Tryz.prog w6 = .ok () w7 := hs
    have HZ7 := Lib.hid hz7
    have HQ7 := Lib.hid (HQ.out w6 w7 HQ6.out fun k hk => ho7 k (by omega))
    have HO7 := Lib.hid (HO.out.trans ⟨(hb7 0 (Nat.zero_le _)).os, (hb7 0 (Nat.zero_le _)).tape, (hb7 0 (Nat.zero_le _)).output, (hb7 0 (Nat.zero_le _)).size, fun k _ hn => ho7 k hn⟩ (S' := fun k => k = w.heap.size + 1 + 1) fun k hk => .inr (by omega))
    have HR0 := Lib.hid hr
    have hne : (r != 0) = true := by simpa using hr
    clear hz7 ho7 hb7 hr hs hX6 hZ6
    go_wp2_with fail
    refine bodyPost_ret (v := .tuple #[Im.nought.v, .int .i64 r]) ?_ rfl ⟨Im.nought, rfl, fun h => absurd h HR0.out, fun _ => rfl, HQ7.out, HO7.out⟩
    exact results_row_tmp (p := 8) (q := 9) rfl _ _ (w.heap.size + 1 + 1) _ rfl (ino_var HZ7.out)
end Go.Proofs.YtnfiapjdkjbdhaaGreat
/- Layer 9 (bmap): Cut. Written by tools/genbmap14.py. -/
namespace Go.Proofs.YtnfiapjdkjbdhaaGreat
open Go.RowKit Go.Maps Go.Lib
set_option linter.unusedVariables false
set_option linter.unusedSimpArgs false
set_option maxRecDepth 10000
attribute [local go_sem ↓] ino_store_fold
theorem results_row_tmp2 {fn : Func} {p q s : Tmp} {ty : TypeId} {P : Program} (h : fn.results = #[.cell p ty, .tmp q, .tmp s]) (tmps : Array Value) (w : World) (g : Nat) (v : Value)
    (hp : tmps.getD p undef = .pointer (some ⟨g, 0, none⟩)) (hl : (loadVar ty ⟨g, 0, none⟩).run P w = .ok v w) :
    (results fn tmps).run P w = .ok (.tuple #[v, tmps.getD q undef, tmps.getD s undef]) w := by
  have hp' : tmps[p]?.getD undef = .pointer (some ⟨g, 0, none⟩) := by simpa using hp
  simp [results, h, hp', asAddr, hl]
def Im.cut (x : Im) (p : Nat) : Im := ⟨x.k, x.n, x.z, if p ≤ 0 then 0 else x.d0, if p ≤ 1 then 0 else x.d1, if p ≤ 2 then 0 else x.d2, if p ≤ 3 then 0 else x.d3, 0⟩
theorem dir_clear {W : World} {h : Nat} {x : Im} (hx : InoAt W h x) (p : Nat) (hp : p ≤ 4) (o : Nat) (ho : p < 4 → o = 3 + p) (c : Nat) (ty : TypeId) :
    ∃ W', (Builtin.clear_ #[75] ty #[.slice (some ⟨h, o, none⟩) (4 - p) c]).run Tryz.prog W = .ok (.tuple #[]) W' ∧ InoAt W' h { x.cut p with i := x.i } ∧ (∀ k, k ≠ h → W'.heap[k]? = W.heap[k]?) ∧ ∀ m, m ≤ h → Below m W W' := by
  by_cases h4 : p = 4
  · subst h4
    exact ⟨W, clear_none 75 38 ty (w16 0) Tryz.underlying75 zero16 _ _ _, hx, fun k _ => rfl, fun m _ => Below.refl _ _⟩
  obtain rfl := ho (by omega)
  have hl : 3 + p + (4 - p) = 7 := by omega
  refine ⟨_, run_clear_slice W 75 38 ty (w16 0) Tryz.underlying75 zero16 rfl rfl h (3 + p) (4 - p) c (by omega) (fun j hj => ?_) (fun j hj => frozen_of_row W h _ _ _ hx), ?_, fun k hk => other_setCells hk _ _ _, fun m hm => below_setCells h hm _ _ _ (Below.refl _ _)⟩
  · rw [cell_of_row W h (3 + p + j) _ _ (0, 0) hx]; simp; omega
  · unfold InoAt
    rw [setCells_heap h 41 _ (3 + p) [.int .u8 x.k, w16 x.n, .int .u32 x.z, w16 x.d0, w16 x.d1, w16 x.d2, w16 x.d3, w16 x.i] W hx (by rw [List.length_replicate]; simp; omega)]
    rw [List.length_replicate, hl]
    match p, h4, hp with
    | 0, _, _ => rfl
    | 1, _, _ => rfl
    | 2, _, _ => rfl
    | 3, _, _ => rfl
    | 4, h4, _ => exact absurd rfl h4
    | p + 5, _, hp => omega
theorem slice_dir (h p : Nat) (hp : p ≤ 4) : ∃ o, (p < 4 → o = 3 + p) ∧ ∀ W, (Instr.sliceAt 39 (.pointer (some ⟨h, 3, none⟩)) (some (.int .i64 (p : Int))) none none).run Tryz.prog W = .ok (.slice (some ⟨h, o, none⟩) (4 - p) (4 - p)) W := by
  refine ⟨if 4 = p then 3 else 3 + p, fun h => by rw [if_neg (by omega)], fun W => ?_⟩
  have hn : Tryz.prog.arrayLen 39 = 4 := by kernel_rfl
  have he : Tryz.prog.elem 39 = 38 := by kernel_rfl
  have z3 := Tryz.sizeOf38
  have h := run_sliceAt_array_l (P := Tryz.prog) W 39 ⟨h, 3, none⟩ (by rw [hn, he]; exact Tryz.underlying39) .i64 (p : Int) (by omega) (by rw [hn]; omega)
  rw [h, hn, he, z3]
  simp only [Result.andThen_ok, slicedAt, Int.toNat_natCast, Nat.mul_one]
  by_cases hq2 : 4 = p
  · rw [if_pos hq2, if_pos hq2]
  · rw [if_neg hq2, if_neg hq2]
    simp [Addr.add]
theorem U16s.kept {W W' : World} {v : Value} {l : List Nat} (h : U16s W v l) (hb : ∀ k, v.ownBlock = some k → W'.heap[k]? = W.heap[k]?) : U16s W' v l := by
  obtain ⟨A, c, rfl, hc⟩ := h
  refine ⟨A, c, rfl, fun j n hj => ?_⟩
  obtain ⟨a, rfl, hcell⟩ := hc j n hj
  refine ⟨a, rfl, ?_⟩
  have e := World.cell?_of_block (a := a.add j) (w := W) (w' := W') (by rw [show (a.add j).block = a.block by unfold Addr.add; split <;> rfl]; exact hb _ rfl)
  exact e.trans hcell
theorem U16s.kept' {W W' : World} {v : Value} {l : List Nat} (h : U16s W v l) (hb : ∀ k, v.ownBlock = some k → k < W.heap.size → W'.heap[k]? = W.heap[k]?) : U16s W' v l := by
  obtain ⟨A, c, rfl, hc⟩ := h
  refine ⟨A, c, rfl, fun j n hj => ?_⟩
  obtain ⟨a, rfl, hcell⟩ := hc j n hj
  refine ⟨a, rfl, ?_⟩
  have e0 : (a.add j).block = a.block := by unfold Addr.add; split <;> rfl
  have hlt := World.block_lt_of_cell? W _ hcell
  rw [e0] at hlt
  have e := World.cell?_of_block (a := a.add j) (w := W) (w' := W') (by rw [e0]; exact hb _ rfl hlt)
  exact e.trans hcell
set_option maxHeartbeats 2000000 in
theorem cut_no (t : Option Addr) (i b j : Int) (x : Im) (p : Int) (r : Int) (hr : r ≠ 0) (w : World) (hN : ∀ V, Calls Tryz.prog 154 #[.pointer t, geoV i b j, x.v, .bool (decide (0 ≤ p ∧ p ≤ 36)), .slice none 0 0] V fun e w' => e = .returned (.int .i64 r) ∧ Below V.heap.size V w') :
    Calls Tryz.prog 109 #[.pointer t, geoV i b j, x.v, .int .i64 p] w fun e w' => e = .returned (.tuple #[Im.nought.v, .slice none 0 0, .int .i64 r]) ∧ Below w.heap.size w w' := by
  obtain ⟨hG, hX, hZ, hB⟩ := box_giz w i b j x
  generalize hW : (((w.alloc (.cells #[.int .i64 i, .int .i64 b, .int .i64 j] 23)).alloc (.cells #[.int .u8 x.k, w16 x.n, .int .u32 x.z, w16 x.d0, w16 x.d1, w16 x.d2, w16 x.d3, w16 x.i] 41)).alloc (.cells #[.int .u8 0, .int .u16 0, .int .u32 0, .int .u16 0, .int .u16 0, .int .u16 0, .int .u16 0, .int .u16 0] 41)) = W0 at *
  obtain ⟨g0, g1, g2, x0, x1, x2, x3, x4, x5, x6, x7⟩ := Boxes.of hG hX
  have HG := Lib.hid hG
  have HX := Lib.hid hX
  have HZ := Lib.hid hZ
  have HB := Lib.hid hB
  have HW := Lib.hid hW
  clear hW hG hX hZ hB
  have hne : (r != 0) = true := by simpa using hr
  clear hr
  by_cases h0 : 0 ≤ p
  · by_cases h1 : p ≤ 36
    · rw [decide_eq_true ⟨h0, h1⟩] at hN
      have hd0 : decide (0 ≤ p) = true := decide_eq_true h0
      have hd1 : decide (p ≤ 36) = true := decide_eq_true h1
      clear h0 h1
      have HN := Lib.hid hN
      clear hN
      go_enter Tryz.func109, Tryz.ntmps109
      go_wp2_with fail
      rw [HW.out]
      clear HW
      refine (HN.out _).mono ?_
      rintro e w1 ⟨rfl, hb⟩
      have HB1 := Lib.hid hb
      have HG1 := Lib.hid (HG.out.below HB1.out)
      have HX1 := Lib.hid (HX.out.below HB1.out HX.out.lt)
      obtain ⟨g0, g1, g2, x0, x1, x2, x3, x4, x5, x6, x7⟩ := Boxes.of HG1.out HX1.out
      have HZ1 := Lib.hid (HZ.out.below HB1.out HZ.out.lt)
      clear hb
      obtain ⟨w2, hs, hz, -, hb2⟩ := ino_store HZ1.out Im.nought
      have hs2 : (inoStore (.pointer (some ⟨w.heap.size + 1 + 1, 0, none⟩)) (.agg #[.int .u8 0, .int .u16 0, .int .u32 0, .int .u16 0, .int .u16 0, .int .u16 0, .int .u16 0, .int .u16 0])).run Tryz.prog w1 = .ok () w2 := hs
      have HZ2 := Lib.hid hz
      have HB2 := Lib.hid ((HB.out.trans (HB1.out.mono HB.out.size)).trans (hb2 _ (by omega)))
      clear hs hz hb2
      go_wp2_with fail
      refine bodyPost_ret (v := .tuple #[Im.nought.v, .slice none 0 0, .int .i64 r]) ?_ rfl ⟨rfl, HB2.out⟩
      exact results_row_tmp2 (p := 8) (q := 9) (s := 10) rfl _ _ (w.heap.size + 1 + 1) _ rfl (ino_var HZ2.out)
    · rw [decide_eq_false (fun h => h1 h.2)] at hN
      have hd0 : decide (0 ≤ p) = true := decide_eq_true h0
      have hd1 : decide (p ≤ 36) = false := decide_eq_false h1
      clear h0 h1
      have HN := Lib.hid hN
      clear hN
      go_enter Tryz.func109, Tryz.ntmps109
      go_wp2_with fail
      rw [HW.out]
      clear HW
      refine (HN.out _).mono ?_
      rintro e w1 ⟨rfl, hb⟩
      have HB1 := Lib.hid hb
      have HG1 := Lib.hid (HG.out.below HB1.out)
      have HX1 := Lib.hid (HX.out.below HB1.out HX.out.lt)
      obtain ⟨g0, g1, g2, x0, x1, x2, x3, x4, x5, x6, x7⟩ := Boxes.of HG1.out HX1.out
      have HZ1 := Lib.hid (HZ.out.below HB1.out HZ.out.lt)
      clear hb
      obtain ⟨w2, hs, hz, -, hb2⟩ := ino_store HZ1.out Im.nought
      have hs2 : (inoStore (.pointer (some ⟨w.heap.size + 1 + 1, 0, none⟩)) (.agg #[.int .u8 0, .int .u16 0, .int .u32 0, .int .u16 0, .int .u16 0, .int .u16 0, .int .u16 0, .int .u16 0])).run Tryz.prog w1 = .ok () w2 := hs
      have HZ2 := Lib.hid hz
      have HB2 := Lib.hid ((HB.out.trans (HB1.out.mono HB.out.size)).trans (hb2 _ (by omega)))
      clear hs hz hb2
      go_wp2_with fail
      refine bodyPost_ret (v := .tuple #[Im.nought.v, .slice none 0 0, .int .i64 r]) ?_ rfl ⟨rfl, HB2.out⟩
      exact results_row_tmp2 (p := 8) (q := 9) (s := 10) rfl _ _ (w.heap.size + 1 + 1) _ rfl (ino_var HZ2.out)
  · rw [decide_eq_false (fun h => h0 h.1)] at hN
    have hd0 : decide (0 ≤ p) = false := decide_eq_false h0
    clear h0
    have HN := Lib.hid hN
    clear hN
    go_enter Tryz.func109, Tryz.ntmps109
    go_wp2_with fail
    rw [HW.out]
    clear HW
    refine (HN.out _).mono ?_
    rintro e w1 ⟨rfl, hb⟩
    have HB1 := Lib.hid hb
    have HG1 := Lib.hid (HG.out.below HB1.out)
    have HX1 := Lib.hid (HX.out.below HB1.out HX.out.lt)
    obtain ⟨g0, g1, g2, x0, x1, x2, x3, x4, x5, x6, x7⟩ := Boxes.of HG1.out HX1.out
    have HZ1 := Lib.hid (HZ.out.below HB1.out HZ.out.lt)
    clear hb
    obtain ⟨w2, hs, hz, -, hb2⟩ := ino_store HZ1.out Im.nought
    have hs2 : (inoStore (.pointer (some ⟨w.heap.size + 1 + 1, 0, none⟩)) (.agg #[.int .u8 0, .int .u16 0, .int .u32 0, .int .u16 0, .int .u16 0, .int .u16 0, .int .u16 0, .int .u16 0])).run Tryz.prog w1 = .ok () w2 := hs
    have HZ2 := Lib.hid hz
    have HB2 := Lib.hid ((HB.out.trans (HB1.out.mono HB.out.size)).trans (hb2 _ (by omega)))
    clear hs hz hb2
    go_wp2_with fail
    refine bodyPost_ret (v := .tuple #[Im.nought.v, .slice none 0 0, .int .i64 r]) ?_ rfl ⟨rfl, HB2.out⟩
    exact results_row_tmp2 (p := 8) (q := 9) (s := 10) rfl _ _ (w.heap.size + 1 + 1) _ rfl (ino_var HZ2.out)
set_option maxHeartbeats 4000000 in
theorem cut_low (t : Option Addr) (i b j : Int) (x : Im) (hxf : x.fits) (p : Nat) (hp : p ≤ 4) (l : List Nat) (hl : l.length = 32) (hlt : ∀ y ∈ l, y < 65536) (w : World) (hN : ∀ V, Calls Tryz.prog 154 #[.pointer t, geoV i b j, x.v, .bool (decide (0 ≤ (p : Int) ∧ (p : Int) ≤ 36)), .slice none 0 0] V fun e w' => e = .returned (.int .i64 0) ∧ Below V.heap.size V w')
    (hR : ∀ V, Below w.heap.size w V → Calls Tryz.prog 156 #[.pointer t, geoV i b j, w16 x.i] V fun e w' => e = .returned (.tuple #[lisV l, .int .i64 0]) ∧ Below V.heap.size V w') :
    Calls Tryz.prog 109 #[.pointer t, geoV i b j, x.v, .int .i64 (p : Int)] w fun e w' => ∃ v, e = .returned (.tuple #[(x.cut p).v, v, .int .i64 0]) ∧ (∀ k, v.ownBlock = some k → w.heap.size ≤ k) ∧ U16s w' v (freeL (p : Int) (prL x l)) ∧ Below w.heap.size w w' := by
  obtain ⟨hG, hX, hZ, hB⟩ := box_giz w i b j x
  generalize hW : (((w.alloc (.cells #[.int .i64 i, .int .i64 b, .int .i64 j] 23)).alloc (.cells #[.int .u8 x.k, w16 x.n, .int .u32 x.z, w16 x.d0, w16 x.d1, w16 x.d2, w16 x.d3, w16 x.i] 41)).alloc (.cells #[.int .u8 0, .int .u16 0, .int .u32 0, .int .u16 0, .int .u16 0, .int .u16 0, .int .u16 0, .int .u16 0] 41)) = W0 at *
  obtain ⟨g0, g1, g2, x0, x1, x2, x3, x4, x5, x6, x7⟩ := Boxes.of hG hX
  have HG := Lib.hid hG
  have HX := Lib.hid hX
  have HZ := Lib.hid hZ
  have HB := Lib.hid hB
  have HW := Lib.hid hW
  clear hW hG hX hZ hB
  rw [decide_eq_true (by omega)] at hN
  have HN := Lib.hid hN
  have HR := Lib.hid hR
  have HSp := Lib.hid fun V => spare_any x hxf l hl hlt (p : Int) V
  have hd0 : decide (0 ≤ (p : Int)) = true := decide_eq_true (by omega)
  have hd1 : decide ((p : Int) ≤ 36) = true := decide_eq_true (by omega)
  have hd4 : decide ((p : Int) ≤ 4) = true := decide_eq_true (by omega)
  clear hN hR hlt hxf
  go_enter Tryz.func109, Tryz.ntmps109
  go_wp2_with fail
  rw [HW.out]
  clear HW
  refine (HN.out _).mono ?_
  rintro e w1 ⟨rfl, hb⟩
  have HB1 := Lib.hid hb
  have HG1 := Lib.hid (HG.out.below HB1.out)
  have HX1 := Lib.hid (HX.out.below HB1.out HX.out.lt)
  obtain ⟨g0, g1, g2, x0, x1, x2, x3, x4, x5, x6, x7⟩ := Boxes.of HG1.out HX1.out
  have HZ1 := Lib.hid (HZ.out.below HB1.out HZ.out.lt)
  clear hb
  have HW1 := Lib.hid (HB.out.trans (HB1.out.mono HB.out.size))
  go_wp2_with fail
  refine (HR.out _ HW1.out).mono ?_
  rintro e w2 ⟨rfl, hb⟩
  have hG2 := HG1.out.below hb
  have hX2 := HX1.out.below hb HX1.out.lt
  have hZ2 := HZ1.out.below hb HZ1.out.lt
  have HB2 := Lib.hid (HW1.out.trans (hb.mono HW1.out.size))
  have hsz2 := hb.size
  obtain ⟨Z, w3, hz, hs, hL, hb3⟩ := lis_new w2 l hl
  have HG3 := Lib.hid (hG2.below hb3)
  have HX3 := Lib.hid (hX2.below hb3 hX2.lt)
  have HZ3 := Lib.hid (hZ2.below hb3 hZ2.lt)
  have HB3 := Lib.hid (HB2.out.trans (hb3.mono HB2.out.size))
  have HL3 := Lib.hid hL
  have hld := lis_load hL
  have hltL := hL.lt
  have hltZ := hZ2.lt
  have hsz3 := hb3.size
  obtain ⟨g0, g1, g2, x0, x1, x2, x3, x4, x5, x6, x7⟩ := Boxes.of HG3.out HX3.out
  clear hb hb3 hG2 hX2 hZ2 hL
  go_wp2_with fail
  refine (HSp.out _).mono ?_
  rintro e w4 ⟨v, rfl, hu, hfr, hb4⟩
  have hX4 := HX3.out.below hb4 HX3.out.lt
  have hZ4 := HZ3.out.below hb4 HZ3.out.lt
  have HB4 := Lib.hid (HB3.out.trans (hb4.mono HB3.out.size))
  have hsz4 := hb4.size
  obtain ⟨o, ho, hsl⟩ := slice_dir (w.heap.size + 1) p hp
  obtain ⟨w5, hcl, hX5, ho5, hb5⟩ := dir_clear hX4 p hp o ho (4 - p) 0
  have hX6 : InoAt (w5.setCell ⟨w.heap.size + 1, 7, none⟩ (.int .u16 0)) (w.heap.size + 1) (x.cut p) := setInd_cells hX5 0
  have hZ6 : InoAt (w5.setCell ⟨w.heap.size + 1, 7, none⟩ (.int .u16 0)) (w.heap.size + 1 + 1) Im.nought := (heap_setCell_other _ _ _ _ (by simp)).trans ((ho5 _ (by omega)).trans hZ4)
  have h7 := (Boxes.cells hX5).2.2.2.2.2.2.2
  have hfr7 : w5.frozen? ⟨w.heap.size + 1, 7, none⟩ = false := frozen_of_row w5 _ _ _ _ hX5
  obtain ⟨x0, x1, x2, x3, x4, x5, x6, x7⟩ := Boxes.cells hX6
  obtain ⟨w7, hs7, hz7, ho7, hb7⟩ := ino_store hZ6 (x.cut p)
  have HZ7 := Lib.hid hz7
  have hsame : ∀ k, k ≠ w.heap.size + 1 → k ≠ w.heap.size + 1 + 1 → w7.heap[k]? = w4.heap[k]? := fun k h1 h2 => (ho7 k h2).trans ((heap_setCell_other _ _ _ _ (by simpa using h1)).trans (ho5 k h1))
  have HFr := Lib.hid (show ∀ k, v.ownBlock = some k → w.heap.size ≤ k from fun k hk => Nat.le_trans HB3.out.size (hfr k hk))
  have HU := Lib.hid (hu.kept (W' := w7) fun k hk => hsame k (by have := hfr k hk; omega) (by have := hfr k hk; omega))
  have HB7 := Lib.hid ((((HB4.out.trans (hb5 _ (by omega))).setCell (p := ⟨w.heap.size + 1, 7, none⟩) (by simp) (.int .u16 0))).trans (hb7 _ (by omega)))
  clear hX4 hZ4 hX5 hX6 hZ6 ho5 hb5 ho7 hb7 hz7 hsame hu hfr hb4 ho
  generalize hc : x.cut p = y at *
  have HC := Lib.hid hc
  clear hc
  go_wp2_with fail
  refine bodyPost_ret (v := .tuple #[y.v, v, .int .i64 0]) ?_ rfl ⟨v, by rw [HC.out], HFr.out, HU.out, HB7.out⟩
  exact results_row_tmp2 (p := 8) (q := 9) (s := 10) rfl _ _ (w.heap.size + 1 + 1) _ rfl (ino_var HZ7.out)
set_option maxHeartbeats 4000000 in
theorem cut_high (t : Option Addr) (i b j : Int) (x : Im) (hxf : x.fits) (p : Nat) (hp : 4 < p) (hp2 : p ≤ 36) (l : List Nat) (hl : l.length = 32) (hlt : ∀ y ∈ l, y < 65536) (r : Int) (w : World) (m0 : Nat) (hm : m0 < w.heap.size) (Q : World → Prop) (hQ : ∀ V V', Q V → (∀ k, k < w.heap.size → V'.heap[k]? = V.heap[k]?) → Q V')
    (hN : ∀ V, Calls Tryz.prog 154 #[.pointer t, geoV i b j, x.v, .bool (decide (0 ≤ (p : Int) ∧ (p : Int) ≤ 36)), .slice none 0 0] V fun e w' => e = .returned (.int .i64 0) ∧ Below V.heap.size V w')
    (hR : ∀ V, Below w.heap.size w V → Calls Tryz.prog 156 #[.pointer t, geoV i b j, w16 x.i] V fun e w' => e = .returned (.tuple #[lisV l, .int .i64 0]) ∧ Below V.heap.size V w')
    (hSh : ∀ V, Below w.heap.size w V → Calls Tryz.prog 165 #[.pointer t, geoV i b j, w16 x.i, lisV l, .int .i64 (p : Int)] V fun e w' => e = .returned (.int .i64 r) ∧ Q w' ∧ Only (fun k => k = m0) V w') :
    Calls Tryz.prog 109 #[.pointer t, geoV i b j, x.v, .int .i64 (p : Int)] w fun e w' => ∃ (y : Im) (v : Value), e = .returned (.tuple #[y.v, v, .int .i64 r]) ∧ (r = 0 → y = x ∧ (∀ k, v.ownBlock = some k → w.heap.size ≤ k) ∧ U16s w' v (freeL (p : Int) (prL x l))) ∧ (r ≠ 0 → y = Im.nought ∧ v = .slice none 0 0) ∧ Q w' ∧ Only (fun k => k = m0) w w' := by
  obtain ⟨hG, hX, hZ, hB⟩ := box_giz w i b j x
  generalize hW : (((w.alloc (.cells #[.int .i64 i, .int .i64 b, .int .i64 j] 23)).alloc (.cells #[.int .u8 x.k, w16 x.n, .int .u32 x.z, w16 x.d0, w16 x.d1, w16 x.d2, w16 x.d3, w16 x.i] 41)).alloc (.cells #[.int .u8 0, .int .u16 0, .int .u32 0, .int .u16 0, .int .u16 0, .int .u16 0, .int .u16 0, .int .u16 0] 41)) = W0 at *
  obtain ⟨g0, g1, g2, x0, x1, x2, x3, x4, x5, x6, x7⟩ := Boxes.of hG hX
  have HG := Lib.hid hG
  have HX := Lib.hid hX
  have HZ := Lib.hid hZ
  have HB := Lib.hid hB
  have HW := Lib.hid hW
  clear hW hG hX hZ hB
  rw [decide_eq_true (by omega)] at hN
  have HN := Lib.hid hN
  have HR := Lib.hid hR
  have HSp := Lib.hid fun V => spare_any x hxf l hl hlt (p : Int) V
  have HSh := Lib.hid hSh
  have HQ := Lib.hid hQ
  have hd0 : decide (0 ≤ (p : Int)) = true := decide_eq_true (by omega)
  have hd1 : decide ((p : Int) ≤ 36) = true := decide_eq_true (by omega)
  have hd4 : decide ((p : Int) ≤ 4) = false := decide_eq_false (by omega)
  clear hN hR hlt hxf hSh hQ hp hp2
  go_enter Tryz.func109, Tryz.ntmps109
  go_wp2_with fail
  rw [HW.out]
  clear HW
  refine (HN.out _).mono ?_
  rintro e w1 ⟨rfl, hb⟩
  have HB1 := Lib.hid hb
  have HG1 := Lib.hid (HG.out.below HB1.out)
  have HX1 := Lib.hid (HX.out.below HB1.out HX.out.lt)
  obtain ⟨g0, g1, g2, x0, x1, x2, x3, x4, x5, x6, x7⟩ := Boxes.of HG1.out HX1.out
  have HZ1 := Lib.hid (HZ.out.below HB1.out HZ.out.lt)
  clear hb
  have HW1 := Lib.hid (HB.out.trans (HB1.out.mono HB.out.size))
  go_wp2_with fail
  refine (HR.out _ HW1.out).mono ?_
  rintro e w2 ⟨rfl, hb⟩
  have hG2 := HG1.out.below hb
  have hX2 := HX1.out.below hb HX1.out.lt
  have hZ2 := HZ1.out.below hb HZ1.out.lt
  have HB2 := Lib.hid (HW1.out.trans (hb.mono HW1.out.size))
  have hsz2 := hb.size
  obtain ⟨Z, w3, hz, hs, hL, hb3⟩ := lis_new w2 l hl
  have HG3 := Lib.hid (hG2.below hb3)
  have HX3 := Lib.hid (hX2.below hb3 hX2.lt)
  have HZ3 := Lib.hid (hZ2.below hb3 hZ2.lt)
  have HB3 := Lib.hid (HB2.out.trans (hb3.mono HB2.out.size))
  have HL3 := Lib.hid hL
  have hld := lis_load hL
  have hltL := hL.lt
  have hltZ := hZ2.lt
  have hsz3 := hb3.size
  obtain ⟨g0, g1, g2, x0, x1, x2, x3, x4, x5, x6, x7⟩ := Boxes.of HG3.out HX3.out
  clear hb hb3 hG2 hX2 hZ2 hL
  go_wp2_with fail
  refine (HSp.out _).mono ?_
  rintro e w4 ⟨v, rfl, hu, hfr, hb4⟩
  have hG4 := HG3.out.below hb4
  have hX4 := HX3.out.below hb4 HX3.out.lt
  have hZ4 := HZ3.out.below hb4 HZ3.out.lt
  have HB4 := Lib.hid (HB3.out.trans (hb4.mono HB3.out.size))
  have hsz4 := hb4.size
  have hld4 := lis_load (HL3.out.below hb4 HL3.out.lt)
  obtain ⟨g0, g1, g2, x0, x1, x2, x3, x4, x5, x6, x7⟩ := Boxes.of hG4 hX4
  have HX4 := Lib.hid hX4
  have HZ4 := Lib.hid hZ4
  have HU4 := Lib.hid hu
  have HFr := Lib.hid hfr
  clear hb4 hG4 hX4 hZ4 hu hfr hs hld
  go_wp2_with fail
  refine (HSh.out _ HB4.out).mono ?_
  rintro e w6 ⟨rfl, hq6, ho6⟩
  have hX6 : InoAt w6 (w.heap.size + 1) x := (ho6.block _ HX4.out.lt (by omega)).trans HX4.out
  have hZ6 : InoAt w6 (w.heap.size + 1 + 1) Im.nought := (ho6.block _ HZ4.out.lt (by omega)).trans HZ4.out
  have hU6 : U16s w6 v (freeL (p : Int) (prL x l)) := HU4.out.kept' fun k hk hkl => ho6.block k hkl (by have := HFr.out k hk; omega)
  have ho0 : Only (fun k => k = m0) w w6 := (Only.of_below (S := fun k => k = m0) HB4.out).trans ho6 fun k hk => .inl hk
  obtain ⟨x0, x1, x2, x3, x4, x5, x6, x7⟩ := Boxes.cells hX6
  have HO := Lib.hid ho0
  have HQ6 := Lib.hid hq6
  have HZ6 := Lib.hid hZ6
  clear ho0 ho6 hq6 hX6 hZ6 hld4
  by_cases hr : r = 0
  · obtain ⟨w7, hs, hz7, ho7, hb7⟩ := ino_store HZ6.out x
    have HZ7 := Lib.hid hz7
    have HU7 := Lib.hid (hU6.kept (W' := w7) fun k hk => ho7 k (by have := HFr.out k hk; omega))
    have HQ7 := Lib.hid (HQ.out w6 w7 HQ6.out fun k hk => ho7 k (by omega))
    have HO7 := Lib.hid (HO.out.trans ⟨(hb7 0 (Nat.zero_le _)).os, (hb7 0 (Nat.zero_le _)).tape, (hb7 0 (Nat.zero_le _)).output, (hb7 0 (Nat.zero_le _)).size, fun k _ hn => ho7 k hn⟩ (S' := fun k => k = w.heap.size + 1 + 1) fun k hk => .inr (by omega))
    have HR0 := Lib.hid hr
    have hne : (r != 0) = false := by simpa using hr
    clear hz7 ho7 hb7 hr hU6
    go_wp2_with fail
    refine bodyPost_ret (v := .tuple #[x.v, v, .int .i64 r]) ?_ rfl ⟨x, v, rfl, fun _ => ⟨rfl, fun k hk => Nat.le_trans HB3.out.size (HFr.out k hk), HU7.out⟩, fun h => absurd HR0.out h, HQ7.out, HO7.out⟩
    rw [HR0.out]
    exact results_row_tmp2 (p := 8) (q := 9) (s := 10) rfl _ _ (w.heap.size + 1 + 1) _ rfl (ino_var HZ7.out)
  · obtain ⟨w7, hs, hz7, ho7, hb7⟩ := ino_store HZ6.out Im.nought
    have hs7 : (inoStore (.pointer (some ⟨w.heap.size + 1 + 1, 0, none⟩)) (.agg #[.int .u8 0, .int .u16 0, .int .u32 0, .int .u16 0, .int .u16 0, .int .u16 0, .int .u16 0, .int .u16 0])).run Tryz.prog w6 = .ok () w7 := hs
    have HZ7 := Lib.hid hz7
    have HQ7 := Lib.hid (HQ.out w6 w7 HQ6.out fun k hk => ho7 k (by omega))
    have HO7 := Lib.hid (HO.out.trans ⟨(hb7 0 (Nat.zero_le _)).os, (hb7 0 (Nat.zero_le _)).tape, (hb7 0 (Nat.zero_le _)).output, (hb7 0 (Nat.zero_le _)).size, fun k _ hn => ho7 k hn⟩ (S' := fun k => k = w.heap.size + 1 + 1) fun k hk => .inr (by omega))
    have HR0 := Lib.hid hr
    have hne : (r != 0) = true := by simpa using hr
    clear hz7 ho7 hb7 hr hs hU6
    go_wp2_with fail
    refine bodyPost_ret (v := .tuple #[Im.nought.v, .slice none 0 0, .int .i64 r]) ?_ rfl ⟨Im.nought, .slice none 0 0, rfl, fun h => absurd h HR0.out, fun _ => ⟨rfl, rfl⟩, HQ7.out, HO7.out⟩
    exact results_row_tmp2 (p := 8) (q := 9) (s := 10) rfl _ _ (w.heap.size + 1 + 1) _ rfl (ino_var HZ7.out)
set_option maxHeartbeats 4000000 in
theorem all_of (t : Option Addr) (i b j : Int) (x : Im) (y : Im) (fl : List Nat) (r : Int) (w : World) (hC : ∀ V, Below w.heap.size w V → Calls Tryz.prog 109 #[.pointer t, geoV i b j, x.v, .int .i64 0] V fun e w' => ∃ v, e = .returned (.tuple #[y.v, v, .int .i64 r]) ∧ U16s w' v fl ∧ Below V.heap.size V w') :
    Calls Tryz.prog 73 #[.pointer t, geoV i b j, x.v] w fun e w' => ∃ v, e = .returned (.tuple #[v, .int .i64 r]) ∧ U16s w' v fl ∧ Below w.heap.size w w' := by
  obtain ⟨hG, hX, hB⟩ := box_gi w i b j x
  generalize hW : ((w.alloc (.cells #[.int .i64 i, .int .i64 b, .int .i64 j] 23)).alloc (.cells #[.int .u8 x.k, w16 x.n, .int .u32 x.z, w16 x.d0, w16 x.d1, w16 x.d2, w16 x.d3, w16 x.i] 41)) = W0 at *
  have HB := Lib.hid hB
  have HW := Lib.hid hW
  have HC := Lib.hid hC
  clear hW hG hX hB hC
  go_enter Tryz.func73, Tryz.ntmps73
  go_wp2_with fail
  rw [HW.out]
  clear HW
  refine (HC.out _ HB.out).mono ?_
  rintro e w1 ⟨v, rfl, hu, hb⟩
  have hZ : InoAt (w1.alloc (.cells #[.int .u8 0, .int .u16 0, .int .u32 0, .int .u16 0, .int .u16 0, .int .u16 0, .int .u16 0, .int .u16 0] 41)) w1.heap.size Im.nought := heap_alloc_new w1 _
  have hb1 : Below w1.heap.size w1 (w1.alloc (.cells #[.int .u8 0, .int .u16 0, .int .u32 0, .int .u16 0, .int .u16 0, .int .u16 0, .int .u16 0, .int .u16 0] 41)) := (Below.refl _ _).alloc (Nat.le_refl _) _
  obtain ⟨w2, hs, -, -, hb2⟩ := ino_store hZ y
  have hb12 := hb1.trans (hb2 _ (Nat.le_refl _))
  have HU := Lib.hid (hu.below hb12)
  have HB2 := Lib.hid ((HB.out.trans (hb.mono HB.out.size)).trans (hb12.mono (Nat.le_trans HB.out.size hb.size)))
  clear hu hb hZ hb1 hb2 hb12
  go_wp2_with fail
  go_ret2
  exact ⟨v, rfl, HU.out, HB2.out⟩
end Go.Proofs.YtnfiapjdkjbdhaaGreat
/- Layer 9 (bmap): what each function answers in a transaction, and what is written then. -/
namespace Go.Proofs.YtnfiapjdkjbdhaaGreat
open Go.RowKit Go.Maps Go.Lib
set_option linter.unusedVariables false
set_option linter.unusedSimpArgs false
set_option maxRecDepth 10000
/-! What is answered, and what is written. -/
def gtE (G : Gm) (x : Im) (p : Int) : Int := if fitB G x 0 ∧ pageP p then 0 else 2
def gtV (G : Gm) (f : Nat → List UInt8) (L : PutL) (x : Im) (p : Int) : Nat := if fitB G x 0 ∧ pageP p then (if p < 4 then x.dir.getD p.toNat 0 else (lisL G f L x.i).getD (p.toNat - 4) 0) else 0
def stS (G : Gm) (f : Nat → List UInt8) (L : PutL) (x : Im) (p : Int) (c : Nat) : List UInt8 := tellL ((lisL G f L x.i).set (p.toNat - 4) c)
def stE (N cap : Nat) (G : Gm) (f : Nat → List UInt8) (L : PutL) (x : Im) (p : Int) (c : Nat) : Int :=
  if fitB G x c ∧ pageP p then (if p < 4 then 0 else if x.i = 0 then 3 else wrE N cap L (secB G x.i : Nat) (stS G f L x p c)) else 2
def stL (N cap : Nat) (G : Gm) (f : Nat → List UInt8) (L : PutL) (x : Im) (p : Int) (c : Nat) : PutL :=
  if fitB G x c ∧ pageP p ∧ 4 ≤ p ∧ x.i ≠ 0 then wrL N cap L (secB G x.i : Nat) (stS G f L x p c) else L
def stX (x : Im) (p : Int) (c : Nat) (e : Int) : Im := if e = 0 then (if p < 4 then x.setDir p.toNat c else x) else Im.nought
def bgE (N cap : Nat) (G : Gm) (L : PutL) (x : Im) (c : Nat) : Int := if fitB G x c ∧ c ≠ 0 ∧ x.i = 0 then wrE N cap L (secB G c : Nat) (List.replicate 64 0) else 2
def bgL (N cap : Nat) (G : Gm) (L : PutL) (x : Im) (c : Nat) : PutL := if fitB G x c ∧ c ≠ 0 ∧ x.i = 0 then wrL N cap L (secB G c : Nat) (List.replicate 64 0) else L
def bgX (x : Im) (c : Nat) (e : Int) : Im := if e = 0 then { x with i := c } else Im.nought
def cutP (p : Int) : Prop := 0 ≤ p ∧ p ≤ 36
instance (p : Int) : Decidable (cutP p) := by unfold cutP; infer_instance
def ctS (G : Gm) (f : Nat → List UInt8) (L : PutL) (x : Im) (p : Int) : List Nat := keepL (lisL G f L x.i) (p.toNat - 4)
def ctE (N cap : Nat) (G : Gm) (f : Nat → List UInt8) (L : PutL) (x : Im) (p : Int) : Int :=
  if fitB G x 0 ∧ cutP p then (if p ≤ 4 then 0 else if ctS G f L x p = lisL G f L x.i then 0 else wrE N cap L (secB G x.i : Nat) (tellL (ctS G f L x p))) else 2
def ctL (N cap : Nat) (G : Gm) (f : Nat → List UInt8) (L : PutL) (x : Im) (p : Int) : PutL :=
  if fitB G x 0 ∧ cutP p ∧ 4 < p ∧ ctS G f L x p ≠ lisL G f L x.i then wrL N cap L (secB G x.i : Nat) (tellL (ctS G f L x p)) else L
def ctX (x : Im) (p : Int) (e : Int) : Im := if e = 0 then (if p ≤ 4 then x.cut p.toNat else x) else Im.nought
def ctF (G : Gm) (f : Nat → List UInt8) (L : PutL) (x : Im) (p : Int) (e : Int) : List Nat := if e = 0 then freeL p (prL x (lisL G f L x.i)) else []
theorem setDir_page (x : Im) (p : Nat) (hp : p < 4) (c : Nat) : x.setDir (p : Int).toNat c = x.setDir p c := by rw [Int.toNat_natCast]
theorem u16s_box {V : World} {g c : Nat} (h : V.heap[g]? = some (.cells #[w16 c] 38 (0, 0))) : U16s V (.slice (some ⟨g, 0, none⟩) 1 1) [c] := by
  refine ⟨_, _, rfl, fun j n hj => ⟨_, rfl, ?_⟩⟩
  match j, hj with
  | 0, hj => cases hj; exact cell_of_row V g 0 _ _ _ h
theorem ref_one {G : Gm} (hG : G.ok) (tb : Nat) (x : Im) (hxf : x.fits) (m : Bool) (c : Nat) (hc : c < 65536) (r : Int) (hr : r = if fitB G x c ∧ m = true then 0 else 2) (V : World) (g : Nat) (h : V.heap[g]? = some (.cells #[w16 c] 38 (0, 0))) :
    Calls Tryz.prog 154 #[.pointer (some ⟨tb, 0, none⟩), gv G, x.v, .bool m, .slice (some ⟨g, 0, none⟩) 1 1] V fun e w' => e = .returned (.int .i64 r) ∧ Below V.heap.size V w' := by
  have := bref_any tb G.i G.b G.j x hxf m _ [c] V (u16s_box h) (fun m c e => by cases e) (Nat.le_refl _) (fun n hn => by rw [List.mem_singleton.1 hn]; exact hc)
  rw [askB_one hG] at this
  have e : (if (decide (fitB G x c) && m) = true then (0 : Int) else 2) = r := by
    rw [hr]
    simp only [Bool.and_eq_true, decide_eq_true_eq]
  rwa [e] at this
theorem ref_none {G : Gm} (hG : G.ok) (tb : Nat) (x : Im) (hxf : x.fits) (m : Bool) (r : Int) (hr : r = if fitB G x 0 ∧ m = true then 0 else 2) (V : World) :
    Calls Tryz.prog 154 #[.pointer (some ⟨tb, 0, none⟩), gv G, x.v, .bool m, .slice none 0 0] V fun e w' => e = .returned (.int .i64 r) ∧ Below V.heap.size V w' := by
  have := bref_any tb G.i G.b G.j x hxf m _ [] V (u16s_nil V) (fun m c e => by cases e; rfl) (by simp) (fun n hn => by simp at hn)
  rw [askB_none hG] at this
  have e : (if (decide (fitB G x 0) && m) = true then (0 : Int) else 2) = r := by
    rw [hr]
    simp only [Bool.and_eq_true, decide_eq_true_eq]
  rwa [e] at this
section
variable {w W : World} {rs : List Res} {t i j tb b jb F n rec : Nat} {M : Dv} {L : PutL} {G : Gm}
theorem TxSys.same (h : TxSys w W rs t i j tb b jb F n rec M L) {W' : World} (hb : Below W.heap.size W W') : TxSys w W' (rs.set t (txR tb b jb M.n L)) t i j tb b jb F n rec M L := by
  rw [set_same h.ht]
  exact h.below hb
theorem write_in (h : TxSys w W rs t i j tb b jb F n rec M L) (hG : G.ok) (k : Nat) (h1 : 1 ≤ k) (h2 : k ≤ G.b) (l : List Nat) (hl : l.length = 32) (hlt : ∀ x ∈ l, x < 65536) {m : Nat} (hT : TxOn W tb b jb m M L F n rec) (V : World) (hV : Below W.heap.size W V) :
    Calls Tryz.prog 155 #[devp tb, gv G, w16 k, lisV l] V fun e w' => e = .returned (.int .i64 (wrE M.n (capL n) L (secB G k : Nat) (tellL l))) ∧
      TxIn w' tb b jb m M.n (wrL M.n (capL n) L (secB G k : Nat) (tellL l)) ∧ Only (fun k => k = m) V w' :=
  bwrite_any _ G hG k h1 h2 l hl hlt _ (fun w' => TxIn w' tb b jb m M.n (wrL M.n (capL n) L (secB G k : Nat) (tellL l)) ∧ Only (fun k => k = m) V w') V fun V2 hV2 =>
    (tx_write (h.below (hV.trans (hV2.mono hV.size))) _ _ (by rw [tellL_length l (by omega)]; omega) (hT.below (hV.trans (hV2.mono hV.size)))).mono fun e w' hx => ⟨hx.1, hx.2.1, (Only.of_below hV2).trans hx.2.2 fun j hj => .inl hj⟩
theorem shorten_in (h : TxSys w W rs t i j tb b jb F n rec M L) (hG : G.ok) (k : Nat) (h1 : 1 ≤ k) (h2 : k ≤ G.b) (l : List Nat) (hl : l.length = 32) (hlt : ∀ x ∈ l, x < 65536) (q : Nat) (hq : q ≤ 32) (p : Int) (hp : p = (q : Int) + 4) (he : keepL l q ≠ l) {m : Nat} (hT : TxOn W tb b jb m M L F n rec) (V : World) (hV : Below W.heap.size W V) :
    Calls Tryz.prog 165 #[devp tb, gv G, w16 k, lisV l, .int .i64 p] V fun e w' => e = .returned (.int .i64 (wrE M.n (capL n) L (secB G k : Nat) (tellL (keepL l q)))) ∧
      TxIn w' tb b jb m M.n (wrL M.n (capL n) L (secB G k : Nat) (tellL (keepL l q))) ∧ Only (fun k => k = m) V w' :=
  shorten_write _ G hG k h1 h2 l hl hlt q hq p hp he _ (fun w' => TxIn w' tb b jb m M.n (wrL M.n (capL n) L (secB G k : Nat) (tellL (keepL l q))) ∧ Only (fun k => k = m) V w') V fun V2 hV2 =>
    (tx_write (h.below (hV.trans (hV2.mono hV.size))) _ _ (by rw [tellL_length _ (by rw [keepL_length hl hq]; omega)]; omega) (hT.below (hV.trans (hV2.mono hV.size)))).mono fun e w' hx => ⟨hx.1, hx.2.1, (Only.of_below hV2).trans hx.2.2 fun j hj => .inl hj⟩
theorem bget_tx (h : TxSys w W rs t i j tb b jb F n rec M L) (hG : G.ok) (hN : M.n = G.all) (x : Im) (hxf : x.fits) (p : Int) :
    Calls Tryz.prog 102 #[devp tb, gv G, x.v, .int .i64 p] W fun e w' => e = .returned (.tuple #[w16 (gtV G M.cur L x p), .int .i64 (gtE G x p)]) ∧ Below W.heap.size W w' := by
  unfold gtV gtE
  have hr := fun r hr V => ref_none hG tb x hxf (decide (0 ≤ p ∧ p < 36)) r hr V
  by_cases hok : fitB G x 0 ∧ pageP p
  · rw [if_pos hok, if_pos hok]
    have h0 : (0 : Int) = if fitB G x 0 ∧ decide (0 ≤ p ∧ p < 36) = true then 0 else 2 := by rw [if_pos ⟨hok.1, decide_eq_true hok.2⟩]
    by_cases h4 : p < 4
    · rw [if_pos h4]
      obtain ⟨q, rfl⟩ : ∃ q : Nat, p = (q : Int) := ⟨p.toNat, by have := hok.2.1; omega⟩
      rw [Int.toNat_natCast]
      exact get_dir _ _ _ _ x q (by omega) W fun V => hr 0 h0 V
    · rw [if_neg h4]
      obtain ⟨q, hq⟩ : ∃ q : Nat, p = (q : Int) + 4 := ⟨p.toNat - 4, by omega⟩
      have hpq := hok.2.2
      rw [show p.toNat - 4 = q by omega]
      exact get_ind _ _ _ _ x q (by omega) p hq _ (h.lis hN hok.1.2.2.2.2.2) W (fun V => hr 0 h0 V) fun V hV => read_tx (h.below hV) hG hN x.i hok.1.2.2.2.2.2
  · rw [if_neg hok, if_neg hok]
    have h2 : (2 : Int) = if fitB G x 0 ∧ decide (0 ≤ p ∧ p < 36) = true then 0 else 2 := by rw [if_neg (fun e => hok ⟨e.1, of_decide_eq_true e.2⟩)]
    exact get_no _ _ _ _ x p 2 (by decide) W fun V => hr 2 h2 V
theorem TxSys.wrote (h : TxSys w W rs t i j tb b jb F n rec M L) {m : Nat} (hset : ∀ W' L', TxIn W' tb b jb m M.n L' → Only (fun k => k = m) W W' → Sys w W' (rs.set t (txR tb b jb M.n L'))) {W' : World} (s : Int) (d : List UInt8)
    (hT : TxIn W' tb b jb m M.n (wrL M.n (capL n) L s d)) (ho : Only (fun k => k = m) W W') : TxSys w W' (rs.set t (txR tb b jb M.n (wrL M.n (capL n) L s d))) t i j tb b jb F n rec M (wrL M.n (capL n) L s d) :=
  h.turn (hset W' _ hT ho) (h.ok.wr s d)
theorem lis_set {l : List Nat} (h : ∀ x ∈ l, x < 65536) (q : Nat) {c : Nat} (hc : c < 65536) : ∀ x ∈ l.set q c, x < 65536 := by
  intro x hx
  rcases List.mem_or_eq_of_mem_set hx with h1 | rfl
  · exact h x h1
  · exact hc
theorem txIn_lt {V : World} {tb b jb m n : Nat} {L : PutL} (h : TxIn V tb b jb m n L) : m < V.heap.size := h.lt.2
theorem bset_tx (h : TxSys w W rs t i j tb b jb F n rec M L) (hG : G.ok) (hN : M.n = G.all) (x : Im) (hxf : x.fits) (p : Int) (c : Nat) (hc : c < 65536) :
    Calls Tryz.prog 101 #[devp tb, gv G, x.v, .int .i64 p, w16 c] W fun e w' => e = .returned (.tuple #[(stX x p c (stE M.n (capL n) G M.cur L x p c)).v, .int .i64 (stE M.n (capL n) G M.cur L x p c)]) ∧
      TxSys w w' (rs.set t (txR tb b jb M.n (stL M.n (capL n) G M.cur L x p c))) t i j tb b jb F n rec M (stL M.n (capL n) G M.cur L x p c) := by
  have hr := fun r hr V g hg => ref_one hG tb x hxf (decide (0 ≤ p ∧ p < 36)) c hc r hr V g hg
  by_cases hok : fitB G x c ∧ pageP p
  · have h0 : (0 : Int) = if fitB G x c ∧ decide (0 ≤ p ∧ p < 36) = true then 0 else 2 := by rw [if_pos ⟨hok.1, decide_eq_true hok.2⟩]
    by_cases h4 : p < 4
    · have hE : stE M.n (capL n) G M.cur L x p c = 0 := by unfold stE; rw [if_pos hok, if_pos h4]
      have hL : stL M.n (capL n) G M.cur L x p c = L := by unfold stL; rw [if_neg (by rintro ⟨-, -, h1, -⟩; omega)]
      rw [hE, hL]
      unfold stX
      rw [if_pos rfl, if_pos h4]
      obtain ⟨q, rfl⟩ : ∃ q : Nat, p = (q : Int) := ⟨p.toNat, by have := hok.2.1; omega⟩
      rw [setDir_page x q (by omega)]
      exact (set_dir _ _ _ _ x q c (by omega) W fun V g hg => hr 0 h0 V g hg).mono fun e w' hx => ⟨hx.1, h.same hx.2⟩
    · by_cases hi : x.i = 0
      · have hE : stE M.n (capL n) G M.cur L x p c = 3 := by unfold stE; rw [if_pos hok, if_neg h4, if_pos hi]
        have hL : stL M.n (capL n) G M.cur L x p c = L := by unfold stL; rw [if_neg (by rintro ⟨-, -, -, h1⟩; exact h1 hi)]
        rw [hE, hL]
        have hX : stX x p c 3 = Im.nought := by unfold stX; rw [if_neg (by decide)]
        rw [hX]
        exact (set_none _ _ _ _ x p c ⟨by omega, hok.2.2, hi⟩ W fun V g hg => hr 0 h0 V g hg).mono fun e w' hx => ⟨hx.1, h.same hx.2⟩
      · obtain ⟨q, hq⟩ : ∃ q : Nat, p = (q : Int) + 4 := ⟨p.toNat - 4, by omega⟩
        have hpq := hok.2.2
        have hE : stE M.n (capL n) G M.cur L x p c = wrE M.n (capL n) L (secB G x.i : Nat) (stS G M.cur L x p c) := by unfold stE; rw [if_pos hok, if_neg h4, if_neg hi]
        have hL : stL M.n (capL n) G M.cur L x p c = wrL M.n (capL n) L (secB G x.i : Nat) (stS G M.cur L x p c) := by unfold stL; rw [if_pos ⟨hok.1, hok.2, by omega, hi⟩]
        have hS : stS G M.cur L x p c = tellL ((lisL G M.cur L x.i).set q c) := by unfold stS; rw [show p.toNat - 4 = q by omega]
        rw [hE, hL, hS]
        obtain ⟨m, hT, hset⟩ := h.on
        have hll := h.lis hN hok.1.2.2.2.2.2
        refine (set_ind _ _ _ _ x q (by omega) p hq c hi _ hll _ W m (txIn_lt hT.tx) (fun w' => TxIn w' tb b jb m M.n (wrL M.n (capL n) L (secB G x.i : Nat) (tellL ((lisL G M.cur L x.i).set q c)))) (fun V V' hV hs => hV.kept (hs _ hT.tx.lt.1) (hs _ hT.tx.lt.2)) (fun V g hg => hr 0 h0 V g hg)
          (fun V hV => read_tx (h.below hV) hG hN x.i hok.1.2.2.2.2.2) (fun V hV => write_in h hG x.i (by omega) hok.1.2.2.2.2.2 _ (by rw [List.length_set]; exact hll) (lis_set (lisL_lt _ _ _ _) q hc) hT V hV)).mono ?_
        rintro e w' ⟨y, rfl, hy0, hy1, hT', ho⟩
        refine ⟨?_, h.wrote hset _ _ hT' ho⟩
        unfold stX
        by_cases hz : wrE M.n (capL n) L (secB G x.i : Nat) (tellL ((lisL G M.cur L x.i).set q c)) = 0
        · rw [if_pos hz, if_neg h4, hy0 hz]
        · rw [if_neg hz, hy1 hz]
  · have h2 : (2 : Int) = if fitB G x c ∧ decide (0 ≤ p ∧ p < 36) = true then 0 else 2 := by rw [if_neg (fun e => hok ⟨e.1, of_decide_eq_true e.2⟩)]
    have hE : stE M.n (capL n) G M.cur L x p c = 2 := by unfold stE; rw [if_neg hok]
    have hL : stL M.n (capL n) G M.cur L x p c = L := by unfold stL; rw [if_neg (by rintro ⟨h1, h3, -⟩; exact hok ⟨h1, h3⟩)]
    have hX : stX x p c 2 = Im.nought := by unfold stX; rw [if_neg (by decide)]
    rw [hE, hL, hX]
    exact (set_no _ _ _ _ x p c 2 (by decide) W fun V g hg => hr 2 h2 V g hg).mono fun e w' hx => ⟨hx.1, h.same hx.2⟩
theorem bbeg_tx (h : TxSys w W rs t i j tb b jb F n rec M L) (hG : G.ok) (x : Im) (hxf : x.fits) (c : Nat) (hc : c < 65536) :
    Calls Tryz.prog 100 #[devp tb, gv G, x.v, w16 c] W fun e w' => e = .returned (.tuple #[(bgX x c (bgE M.n (capL n) G L x c)).v, .int .i64 (bgE M.n (capL n) G L x c)]) ∧
      TxSys w w' (rs.set t (txR tb b jb M.n (bgL M.n (capL n) G L x c))) t i j tb b jb F n rec M (bgL M.n (capL n) G L x c) := by
  have hr := fun r hr V g hg => ref_one hG tb x hxf (decide (c ≠ 0 ∧ x.i = 0)) c hc r hr V g hg
  by_cases hok : fitB G x c ∧ c ≠ 0 ∧ x.i = 0
  · have h0 : (0 : Int) = if fitB G x c ∧ decide (c ≠ 0 ∧ x.i = 0) = true then 0 else 2 := by rw [if_pos ⟨hok.1, decide_eq_true hok.2⟩]
    have hz64 : tellL (List.replicate 32 0) = List.replicate 64 0 := by decide
    have hE : bgE M.n (capL n) G L x c = wrE M.n (capL n) L (secB G c : Nat) (tellL (List.replicate 32 0)) := by unfold bgE; rw [if_pos hok, hz64]
    have hL : bgL M.n (capL n) G L x c = wrL M.n (capL n) L (secB G c : Nat) (tellL (List.replicate 32 0)) := by unfold bgL; rw [if_pos hok, hz64]
    rw [hE, hL]
    obtain ⟨m, hT, hset⟩ := h.on
    refine (begin_ok _ _ _ _ x c hok.2.1 hok.2.2 _ W m (txIn_lt hT.tx) (fun w' => TxIn w' tb b jb m M.n (wrL M.n (capL n) L (secB G c : Nat) (tellL (List.replicate 32 0)))) (fun V V' hV hs => hV.kept (hs _ hT.tx.lt.1) (hs _ hT.tx.lt.2)) (fun V g hg => hr 0 h0 V g hg)
      (fun V hV => write_in h hG c (by have := hok.2.1; omega) hok.1.1 _ rfl (fun y hy => by rw [List.eq_of_mem_replicate hy]; decide) hT V hV)).mono ?_
    rintro e w' ⟨y, rfl, hy0, hy1, hT', ho⟩
    refine ⟨?_, h.wrote hset _ _ hT' ho⟩
    unfold bgX
    by_cases hz : wrE M.n (capL n) L (secB G c : Nat) (tellL (List.replicate 32 0)) = 0
    · rw [if_pos hz, hy0 hz]
    · rw [if_neg hz, hy1 hz]
  · have h2 : (2 : Int) = if fitB G x c ∧ decide (c ≠ 0 ∧ x.i = 0) = true then 0 else 2 := by rw [if_neg (fun e => hok ⟨e.1, of_decide_eq_true e.2⟩)]
    have hE : bgE M.n (capL n) G L x c = 2 := by unfold bgE; rw [if_neg hok]
    have hL : bgL M.n (capL n) G L x c = L := by unfold bgL; rw [if_neg hok]
    have hX : bgX x c 2 = Im.nought := by unfold bgX; rw [if_neg (by decide)]
    rw [hE, hL, hX]
    exact (begin_no _ _ _ _ x c 2 (by decide) W fun V g hg => hr 2 h2 V g hg).mono fun e w' hx => ⟨hx.1, h.same hx.2⟩
theorem bcut_tx (h : TxSys w W rs t i j tb b jb F n rec M L) (hG : G.ok) (hN : M.n = G.all) (x : Im) (hxf : x.fits) (p : Int) :
    Calls Tryz.prog 109 #[devp tb, gv G, x.v, .int .i64 p] W fun e w' => ∃ v, e = .returned (.tuple #[(ctX x p (ctE M.n (capL n) G M.cur L x p)).v, v, .int .i64 (ctE M.n (capL n) G M.cur L x p)]) ∧ U16s w' v (ctF G M.cur L x p (ctE M.n (capL n) G M.cur L x p)) ∧ (p ≤ 4 → Below W.heap.size W w') ∧
      TxSys w w' (rs.set t (txR tb b jb M.n (ctL M.n (capL n) G M.cur L x p))) t i j tb b jb F n rec M (ctL M.n (capL n) G M.cur L x p) := by
  have hr := fun r hr V => ref_none hG tb x hxf (decide (0 ≤ p ∧ p ≤ 36)) r hr V
  by_cases hok : fitB G x 0 ∧ cutP p
  · have h0 : (0 : Int) = if fitB G x 0 ∧ decide (0 ≤ p ∧ p ≤ 36) = true then 0 else 2 := by rw [if_pos ⟨hok.1, decide_eq_true hok.2⟩]
    have hll := h.lis hN hok.1.2.2.2.2.2
    by_cases h4 : p ≤ 4
    · have hE : ctE M.n (capL n) G M.cur L x p = 0 := by unfold ctE; rw [if_pos hok, if_pos h4]
      have hL : ctL M.n (capL n) G M.cur L x p = L := by unfold ctL; rw [if_neg (by rintro ⟨-, -, h1, -⟩; omega)]
      rw [hE, hL]
      unfold ctX ctF
      rw [if_pos rfl, if_pos h4, if_pos rfl]
      obtain ⟨q, rfl⟩ : ∃ q : Nat, p = (q : Int) := ⟨p.toNat, by have := hok.2.1; omega⟩
      rw [Int.toNat_natCast]
      refine (cut_low _ _ _ _ x hxf q (by omega) _ hll (lisL_lt _ _ _ _) W (fun V => hr 0 h0 V) fun V hV => read_tx (h.below hV) hG hN x.i hok.1.2.2.2.2.2).mono ?_
      rintro e w' ⟨v, rfl, -, hu, hb⟩
      exact ⟨v, rfl, hu, fun _ => hb, h.same hb⟩
    · obtain ⟨q, rfl⟩ : ∃ q : Nat, p = (q : Int) := ⟨p.toNat, by have := hok.2.1; omega⟩
      have hq36 : q ≤ 36 := by have := hok.2.2; omega
      have hS : ctS G M.cur L x (q : Int) = keepL (lisL G M.cur L x.i) (q - 4) := by unfold ctS; rw [Int.toNat_natCast]
      by_cases hk : keepL (lisL G M.cur L x.i) (q - 4) = lisL G M.cur L x.i
      · have hE : ctE M.n (capL n) G M.cur L x (q : Int) = 0 := by unfold ctE; rw [if_pos hok, if_neg h4, hS, if_pos hk]
        have hL : ctL M.n (capL n) G M.cur L x (q : Int) = L := by unfold ctL; rw [if_neg (by rintro ⟨-, -, -, h1⟩; rw [hS] at h1; exact h1 hk)]
        rw [hE, hL]
        unfold ctX ctF
        rw [if_pos rfl, if_neg h4, if_pos rfl]
        obtain ⟨m, hT, hset⟩ := h.on
        refine (cut_high _ _ _ _ x hxf q (by omega) hq36 _ hll (lisL_lt _ _ _ _) 0 W m (txIn_lt hT.tx) (fun w' => TxIn w' tb b jb m M.n L) (fun V V' hV hs => hV.kept (hs _ hT.tx.lt.1) (hs _ hT.tx.lt.2)) (fun V => hr 0 h0 V) (fun V hV => read_tx (h.below hV) hG hN x.i hok.1.2.2.2.2.2)
          (fun V hV => (shorten_same _ _ _ _ x.i _ hll (q - 4) (by omega) _ (by omega) hk V).mono fun e w' hx => ⟨hx.1, (hT.tx.below hV).below hx.2, Only.of_below hx.2⟩)).mono ?_
        rintro e w' ⟨y, v, rfl, hy, -, hT', ho⟩
        obtain ⟨rfl, -, hu⟩ := hy rfl
        exact ⟨v, rfl, hu, fun h => absurd h h4, h.turn (hset w' _ hT' ho) h.ok⟩
      · have hi : x.i ≠ 0 := fun hi => hk (by
          unfold lisL
          rw [if_pos hi]
          unfold keepL
          rw [List.take_replicate, List.replicate_append_replicate]
          congr 1; omega)
        have hE : ctE M.n (capL n) G M.cur L x (q : Int) = wrE M.n (capL n) L (secB G x.i : Nat) (tellL (keepL (lisL G M.cur L x.i) (q - 4))) := by unfold ctE; rw [if_pos hok, if_neg h4, hS, if_neg hk]
        have hL : ctL M.n (capL n) G M.cur L x (q : Int) = wrL M.n (capL n) L (secB G x.i : Nat) (tellL (keepL (lisL G M.cur L x.i) (q - 4))) := by unfold ctL; rw [hS, if_pos ⟨hok.1, hok.2, by omega, hk⟩]
        rw [hE, hL]
        obtain ⟨m, hT, hset⟩ := h.on
        refine (cut_high _ _ _ _ x hxf q (by omega) hq36 _ hll (lisL_lt _ _ _ _) _ W m (txIn_lt hT.tx) (fun w' => TxIn w' tb b jb m M.n (wrL M.n (capL n) L (secB G x.i : Nat) (tellL (keepL (lisL G M.cur L x.i) (q - 4))))) (fun V V' hV hs => hV.kept (hs _ hT.tx.lt.1) (hs _ hT.tx.lt.2)) (fun V => hr 0 h0 V) (fun V hV => read_tx (h.below hV) hG hN x.i hok.1.2.2.2.2.2)
          (fun V hV => shorten_in h hG x.i (by omega) hok.1.2.2.2.2.2 _ hll (lisL_lt _ _ _ _) (q - 4) (by omega) _ (by omega) hk hT V hV)).mono ?_
        rintro e w' ⟨y, v, rfl, hy0, hy1, hT', ho⟩
        have hnl : ¬ ((q : Int) ≤ 4) := h4
        unfold ctX ctF
        by_cases hz : wrE M.n (capL n) L (secB G x.i : Nat) (tellL (keepL (lisL G M.cur L x.i) (q - 4))) = 0
        · obtain ⟨rfl, -, hu⟩ := hy0 hz
          rw [if_pos hz, if_neg hnl, if_pos hz]
          exact ⟨v, rfl, hu, fun h => absurd h hnl, h.wrote hset _ _ hT' ho⟩
        · obtain ⟨rfl, rfl⟩ := hy1 hz
          rw [if_neg hz, if_neg hz]
          exact ⟨_, rfl, u16s_nil _, fun h => absurd h hnl, h.wrote hset _ _ hT' ho⟩
  · have h2 : (2 : Int) = if fitB G x 0 ∧ decide (0 ≤ p ∧ p ≤ 36) = true then 0 else 2 := by rw [if_neg (fun e => hok ⟨e.1, of_decide_eq_true e.2⟩)]
    have hE : ctE M.n (capL n) G M.cur L x p = 2 := by unfold ctE; rw [if_neg hok]
    have hL : ctL M.n (capL n) G M.cur L x p = L := by unfold ctL; rw [if_neg (by rintro ⟨h1, h3, -⟩; exact hok ⟨h1, h3⟩)]
    have hX : ctX x p 2 = Im.nought := by unfold ctX; rw [if_neg (by decide)]
    have hF : ctF G M.cur L x p 2 = [] := by unfold ctF; rw [if_neg (by decide)]
    rw [hE, hL, hX, hF]
    exact (cut_no _ _ _ _ x p 2 (by decide) W fun V => hr 2 h2 V).mono fun e w' hx => ⟨_, hx.1, u16s_nil _, fun _ => hx.2, h.same hx.2⟩
theorem ball_tx (h : TxSys w W rs t i j tb b jb F n rec M L) (hG : G.ok) (hN : M.n = G.all) (x : Im) (hxf : x.fits) :
    Calls Tryz.prog 73 #[devp tb, gv G, x.v] W fun e w' => ∃ v, e = .returned (.tuple #[v, .int .i64 (ctE M.n (capL n) G M.cur L x 0)]) ∧ U16s w' v (ctF G M.cur L x 0 (ctE M.n (capL n) G M.cur L x 0)) ∧ Below W.heap.size W w' :=
  all_of _ _ _ _ x _ _ _ W fun V hV => (bcut_tx (h.below hV) hG hN x hxf 0).mono fun e w' hx => by
    obtain ⟨v, he, hu, hb, -⟩ := hx
    exact ⟨v, he, hu, hb (by decide)⟩
end
end Go.Proofs.YtnfiapjdkjbdhaaGreat
/- Layer 8 (tx): both sides, a step at a time. -/
namespace Go.Proofs.YtnfiapjdkjbdhaaGreat
open Go.RowKit Go.Maps
set_option linter.unusedVariables false
set_option linter.unusedSimpArgs false
set_option maxRecDepth 10000
structure Both (w W : World) (rs : List Res) (t i j r q tb b jb rb rec : Nat) (v : Value) (M : Dv) (L : PutL) : Prop where
  tx : TxSys w W rs t i j tb b jb 4 12 rec M L
  ref : RefSys w W rs r q rb v M.n (capL 12) M.cur L
  tr : t ≠ r
  tq : t ≠ q
  ri : i ≠ r
  rj : j ≠ r
section
variable {w W : World} {rs : List Res} {t i j r q tb b jb rb rec : Nat} {v : Value} {M : Dv} {L : PutL}
theorem Both.below (h : Both w W rs t i j r q tb b jb rb rec v M L) {W' : World} (hb : Below W.heap.size W W') : Both w W' rs t i j r q tb b jb rb rec v M L := { h with tx := h.tx.below hb, ref := h.ref.below hb }
structure Half (w W : World) (rs : List Res) (t i j r q tb b jb rb rec : Nat) (v : Value) (M : Dv) (L L' : PutL) : Prop where
  tx : TxSys w W rs t i j tb b jb 4 12 rec M L'
  ref : RefSys w W rs r q rb v M.n (capL 12) M.cur L
  tr : t ≠ r
  tq : t ≠ q
  ri : i ≠ r
  rj : j ≠ r
theorem Half.below {L' : PutL} (h : Half w W rs t i j r q tb b jb rb rec v M L L') {W' : World} (hb : Below W.heap.size W W') : Half w W' rs t i j r q tb b jb rb rec v M L L' := { h with tx := h.tx.below hb, ref := h.ref.below hb }
theorem app_left {α : Type} {rs : List α} {k : Nat} {x y : α} (h : rs[k]? = some x) : (rs ++ [y])[k]? = some x := by rw [List.getElem?_append_left (idx_lt h)]; exact h
theorem Both.push (h : Both w W rs t i j r q tb b jb rb rec v M L) {W' : World} {x : Res} (hs : Sys w W' (rs ++ [x])) : Both w W' (rs ++ [x]) t i j r q tb b jb rb rec v M L :=
  { h with
    tx := { h.tx with sys := hs, ht := app_left h.tx.ht, hi := app_left h.tx.hi, hj := app_left h.tx.hj }
    ref := { h.ref with sys := hs, hr := app_left h.ref.hr, hq := app_left h.ref.hq } }
end
end Go.Proofs.YtnfiapjdkjbdhaaGreat
/- Layer 8 (tx): Commit and Abort, as things that lie apart turn by them; the chapter's examples. -/
namespace Go.Proofs.YtnfiapjdkjbdhaaGreat
open Go.RowKit Go.Maps
set_option linter.unusedVariables false
set_option linter.unusedSimpArgs false
set_option maxRecDepth 10000
section
variable {w W : World} {rs : List Res} {t i j tb b jb F n rec N : Nat} {M : Dv} {L : PutL}
end
/-! A device at rest. -/
structure Rest (M : Dv) (g : Nat) : Prop where
  up : M.down = false
  left : M.left = 0
  calm : M.calm
  gen : (hd (M.dur 4)).gen = g
  pend : (hd (M.dur 4)).pend = false
theorem Rest.new (n : Nat) : Rest (dev0 n) 0 := ⟨rfl, rfl, fun _ => rfl, by show (hd (List.replicate 64 0)).gen = 0; rw [hd_zero], by show (hd (List.replicate 64 0)).pend = false; rw [hd_zero]⟩
theorem Rest.sta {M : Dv} {g : Nat} (h : Rest M g) (N : Nat) : StA N 4 12 g M.dur M.dur := ⟨h.gen, h.pend, fun i _ => rfl⟩
theorem Rest.head {M : Dv} {g : Nat} (h : Rest M g) : M.headOf 4 = ⟨g, false, (M.headOf 4).cnt⟩ := by
  rw [calm_head h.calm]
  exact sta_head (h.sta M.n)
theorem Rest.cur {M : Dv} {g : Nat} (h : Rest M g) : M.cur = M.dur := funext fun i => calm_cur M h.calm i
section
variable {w W : World} {rs : List Res} {t i j tb b jb rec g : Nat} {M : Dv} {L : PutL}
end
end Go.Proofs.YtnfiapjdkjbdhaaGreat
/- Layer 5 (geo): Super and Read. -/
namespace Go.Proofs.YtnfiapjdkjbdhaaGreat
open Go.RowKit
set_option linter.unusedVariables false
set_option linter.unusedSimpArgs false
set_option maxRecDepth 10000
def Gm.nth (G : Gm) : Nat → Nat
  | 0 => G.i
  | 1 => G.b
  | _ => G.j
theorem Gm.nth_le {G : Gm} (h : G.ok) (k : Nat) : G.nth k ≤ 1024 := by
  unfold Gm.ok at h
  match k with
  | 0 | 1 | k + 2 => simp only [Gm.nth]; omega
def Gm.pre (G : Gm) : Nat → List UInt8
  | 0 => labelL
  | k + 1 => G.pre k ++ leB 4 (G.nth k)
theorem Gm.pre_length (G : Gm) (k : Nat) : (G.pre k).length = 8 + 4 * k := by
  induction k with
  | zero => rfl
  | succ k ih => rw [Gm.pre, List.length_append, ih, leB_length]; omega
theorem small_num (v : Nat) (h : v ≤ 1024) : ((v : Int) / 2 ^ (8 * 4) != 0) = false := by
  rw [bne_eq_false_iff_eq]
  omega
theorem num4 (v : Nat) (x : Int) (hx : x = (v : Int)) (w : World) (h : v ≤ 1024) :
    Calls Tryz.prog 129 #[.int .u64 x, .int .i64 4] w fun e w' => e = .returned (.tuple #[str (leB 4 v), .int .i64 0]) ∧ Below w.heap.size w w' := by
  subst hx
  exact num_ok v 4 w (by omega) (by omega) (small_num v h)
set_option maxHeartbeats 1000000 in
theorem super_ok (G : Gm) (w : World) (h : G.ok) :
    Calls Tryz.prog 68 #[gv G] w fun e w' => e = .returned (.tuple #[str (superL G), .int .i64 0]) ∧ Below w.heap.size w w' := by
  have HM := Lib.hid fun W => may_ok _ _ _ W (gm_mayI h)
  have HN := Lib.hid fun k W => num4 (G.nth k) (G.nth k : Int) rfl W (G.nth_le h k)
  have HK := Lib.hid fun k => G.nth_le h k
  have HPL := Lib.hid fun k => G.pre_length k
  go_enter Tryz.func68, Tryz.ntmps68
  go_wp2_with fail
  with_reducible refine (HM.out _).mono ?_
  rintro e w1 ⟨rfl, hb⟩
  have B := Lib.hid hb
  obtain ⟨hc, hf⟩ := bcell hb
  have hz : w.heap.size < w1.heap.size := by have := hb.size; simp at this; omega
  clear hb
  go_wp2_with fail
  go_loopw [4, 6, 7, 8, 19] (fun s _ _ _ i wr => ∃ k : Nat, k ≤ 3 ∧ i = .int .i64 k ∧ s = str (G.pre k) ∧ wr.heap[w1.heap.size]? = some (.cells #[.int .i64 (G.i : Int), .int .i64 (G.b : Int), .int .i64 (G.j : Int)] 136 (0, 0)) ∧ Below w1.heap.size w1 wr) (fun _ _ _ _ i _ => 3 - (Go.RowKit.intOf i).toNat)
  case atStart => exact ⟨0, by omega, rfl, rfl, heap_alloc_new _ _, (Below.refl _ _).alloc (Nat.le_refl _) _⟩
  case round =>
    obtain ⟨k, hk, rfl, rfl, hg, hb⟩ := hrel
    have Hg := Lib.hid hg
    by_cases hlt : k < 3
    · have hcell := cell_of_row wr w1.heap.size k _ 136 (0, 0) hg
      have hcv : (#[Value.int .i64 (G.i : Int), .int .i64 (G.b : Int), .int .i64 (G.j : Int)] : Array Value)[k]? = some (.int .i64 (G.nth k : Int)) := by
        match k, hlt with
        | 0, _ | 1, _ | 2, _ => rfl
      rw [hcv] at hcell
      have hkk := HK.out k
      have hl := HPL.out k
      have hl2 : (G.pre k).length ≤ 20 := by omega
      have hl4 : (leB 4 (G.nth k)).length ≤ 4 := by rw [leB_length]; omega
      clear hcv hg hl
      go_wp2_with fail
      with_reducible refine (HN.out k _).mono ?_
      rintro e w3 ⟨rfl, hb3⟩
      have B3 := Lib.hid hb3
      clear hb3
      go_wp2_with fail
      go_roundw
      case rel => exact ⟨k + 1, by omega, by go_num, rfl, (B3.out.block _ (by have := hb.size; have := (Array.getElem?_eq_some_iff.1 Hg.out).1; omega)).trans Hg.out, hb.trans (B3.out.mono hb.size)⟩
      case measure => simp [Go.RowKit.intOf]; omega
    · have hkq : k = 3 := by omega
      subst hkq
      have HP := Lib.hid (pad_ok (G.pre 3) 44 64 wr (by rw [G.pre_length 3]; rfl) (by rw [G.pre_length 3]; omega))
      clear hg
      go_wp2_with fail
      with_reducible refine HP.out.mono ?_
      rintro e w3 ⟨rfl, hb3⟩
      have B3 := Lib.hid hb3
      clear hb3
      go_wp2_with fail
      go_ret2
      exact ⟨rfl, (((Below.refl _ _).alloc (Nat.le_refl _) _).trans (B.out.mono (by simp))).trans (hb.mono (by omega)) |>.trans (B3.out.mono (by have := hb.size; omega))⟩
end Go.Proofs.YtnfiapjdkjbdhaaGreat
